/-
  Be7.
-/
import Derived.Test.YtoomeimloaloaaaGreatDoorMA
import Derived.Test.YtoomeimloaloaaaGreatDoorQC
namespace Go.Proofs.YtoomeimloaloaaaGreatDoor
set_option maxRecDepth 100000
set_option linter.unusedVariables false
set_option linter.unusedSimpArgs false
set_option linter.unusedSectionVars false

/-! GermSame of the program. -/
section
open Go.RowKit Go.Maps

theorem s18g {W : World} {x y k : Nat} {T G : Nat → Int} {t1 t2 u1 u2 : Int} (hx : Blk W x 65 #[.int .i64 ((k : Int)), .int .i64 (T 0), .int .i64 (T 1), .int .i64 (T 2), .int .i64 (T 3), .int .i64 (T 4), .int .i64 (T 5), .int .i64 (t1), .int .i64 (t2)]) (hy : Blk W y 65 #[.int .i64 ((k : Int)), .int .i64 (G 0), .int .i64 (G 1), .int .i64 (G 2), .int .i64 (G 3), .int .i64 (G 4), .int .i64 (G 5), .int .i64 (u1), .int .i64 (u2)]) :
    W.cell? ⟨x, 0, none⟩ = some (.int .i64 (k : Int)) ∧ W.cell? ⟨x, 1, none⟩ = some (.int .i64 (T 0)) ∧ W.cell? ⟨x, 2, none⟩ = some (.int .i64 (T 1)) ∧ W.cell? ⟨x, 3, none⟩ = some (.int .i64 (T 2)) ∧ W.cell? ⟨x, 4, none⟩ = some (.int .i64 (T 3)) ∧ W.cell? ⟨x, 5, none⟩ = some (.int .i64 (T 4)) ∧ W.cell? ⟨x, 6, none⟩ = some (.int .i64 (T 5)) ∧ W.cell? ⟨x, 7, none⟩ = some (.int .i64 (t1)) ∧ W.cell? ⟨x, 8, none⟩ = some (.int .i64 (t2)) ∧ W.cell? ⟨y, 0, none⟩ = some (.int .i64 (k : Int)) ∧ W.cell? ⟨y, 1, none⟩ = some (.int .i64 (G 0)) ∧ W.cell? ⟨y, 2, none⟩ = some (.int .i64 (G 1)) ∧ W.cell? ⟨y, 3, none⟩ = some (.int .i64 (G 2)) ∧ W.cell? ⟨y, 4, none⟩ = some (.int .i64 (G 3)) ∧ W.cell? ⟨y, 5, none⟩ = some (.int .i64 (G 4)) ∧ W.cell? ⟨y, 6, none⟩ = some (.int .i64 (G 5)) ∧ W.cell? ⟨y, 7, none⟩ = some (.int .i64 (u1)) ∧ W.cell? ⟨y, 8, none⟩ = some (.int .i64 (u2)) := ⟨hx.cell 0, hx.cell 1, hx.cell 2, hx.cell 3, hx.cell 4, hx.cell 5, hx.cell 6, hx.cell 7, hx.cell 8, hy.cell 0, hy.cell 1, hy.cell 2, hy.cell 3, hy.cell 4, hy.cell 5, hy.cell 6, hy.cell 7, hy.cell 8⟩
theorem ar9 {W : World} {g : Nat} {v0 v1 v2 v3 v4 v5 v6 v7 v8 : Value} (h' : Blk W g 65 #[v0, v1, v2, v3, v4, v5, v6, v7, v8]) :
    W.cell? ⟨g, 0, none⟩ = some v0 ∧ W.cell? ⟨g, 1, none⟩ = some v1 ∧ W.cell? ⟨g, 2, none⟩ = some v2 ∧ W.cell? ⟨g, 3, none⟩ = some v3 ∧ W.cell? ⟨g, 4, none⟩ = some v4 ∧ W.cell? ⟨g, 5, none⟩ = some v5 ∧ W.cell? ⟨g, 6, none⟩ = some v6 ∧ W.cell? ⟨g, 7, none⟩ = some v7 ∧ W.cell? ⟨g, 8, none⟩ = some v8 :=
  ⟨h'.cell 0, h'.cell 1, h'.cell 2, h'.cell 3, h'.cell 4, h'.cell 5, h'.cell 6, h'.cell 7, h'.cell 8⟩
theorem kcutQ {α : Type} {Q : Prop} (P : α → Prop) {F : α} (h1 : P F → Q) (h2 : P F) : Q := h1 h2
/-- the chart is among those that move the point -/
theorem cont_is {zs : List (List Int)} {p : Int} {f : List Int} {k : Nat} {T : Nat → Int} (hy : isC f = true → k = f.length ∧ ∀ j, j < 6 → T j = ofL f j) (hno : isC f = false → k = 0 ∧ ∀ j, j < 6 → T j = 0) :
    (atLs zs p).any (eqAr k (m0 zs) T (domL (mv T k) : Nat) (imN k T : Nat)) = decide (f ∈ atLs zs p) := by
  have hL : ∀ L ∈ atLs zs p, isC L = true ∧ L.length = m0 zs := fun L h => by
    obtain ⟨hS, _, _, hz, _⟩ := atLs_mem h
    exact (sgS_iff.1 hS).ch L hz
  cases hc : isC f
  · have hk := (hno hc).1
    rw [decide_eq_false (fun h => by have := (hL f h).1; rw [hc] at this; cases this)]
    rw [← Bool.not_eq_true, List.any_eq_true]
    rintro ⟨L, h1, h2⟩
    obtain ⟨c, l⟩ := hL L h1
    unfold eqAr at h2
    rw [Bool.and_eq_true, decide_eq_true_eq] at h2
    have := (isC_len c).1
    omega
  · obtain ⟨hk, hT⟩ := hy hc
    have h6 := (isC_len hc).2
    rw [Bool.eq_iff_iff, decide_eq_true_eq, List.any_eq_true]
    constructor
    · rintro ⟨L, h1, h2⟩
      obtain ⟨c, l⟩ := hL L h1
      have l6 := (isC_len c).2
      unfold eqAr at h2
      simp only [Bool.and_eq_true, decide_eq_true_eq, beq_iff_eq] at h2
      obtain ⟨e0, ⟨t0, t1, t2, t3, t4, t5⟩, _, _⟩ := h2
      have e : f = L := ofL_ext (n := f.length) rfl (by omega) (fun j hj => by
        rw [← hT j (by omega)]
        rcases (show j = 0 ∨ j = 1 ∨ j = 2 ∨ j = 3 ∨ j = 4 ∨ j = 5 by omega) with rfl | rfl | rfl | rfl | rfl | rfl
        · exact t0
        · exact t1
        · exact t2
        · exact t3
        · exact t4
        · exact t5)
      rw [e]; exact h1
    · intro h1
      obtain ⟨c, l⟩ := hL f h1
      have hcc := c9_of c l
      refine ⟨f, h1, ?_⟩
      unfold eqAr
      have hkm : k = m0 zs := by omega
      have e1 : domL (mv T k) = doN f := by rw [doN_congr (by omega) hT, hkm]; exact hcc.1
      have e2 : imN k T = raN f := by rw [imN_congr (by omega) hT, hkm]; exact hcc.2
      rw [e1, e2, hkm, hT 0 (by omega), hT 1 (by omega), hT 2 (by omega), hT 3 (by omega), hT 4 (by omega), hT 5 (by omega)]
      simp
def geB (f g : List Int) (ld : Nat) : Bool := decide (∀ j, j < f.length → ld.testBit j = true → ofL f j = ofL g j)
def giB (zs : List (List Int)) (f g : List Int) (p : Int) : Bool := decide (f ∈ atLs zs p) && (decide (g ∈ atLs zs p) && geB f g (ldN (atLs zs p)))
theorem cut_at {f : List Int} (h : isC f = true) {T T' : Nat → Int} (hT : ∀ j, j < 6 → T j = ofL f j) {ld : Nat} (hT' : ∀ j, j < 6 → T' j = cutL f.length ld (mv T f.length) j) : ∀ j, j < 6 → T' j = if j < f.length then (if ld.testBit j = true then ofL f j else -1) else 0 := fun j hj => by
  rw [hT' j hj, cut_closed _ _ _ _ _ (isC_len h).2]
  by_cases hl : j < f.length
  · rw [if_pos hl]
    have := isC_ent h j hl
    have h6 := (isC_len h).2
    rw [hT j hj]
    have e : ofL f j = f[j]?.getD 0 := rfl
    by_cases hb : ld.testBit j = true
    · rw [if_pos hb]
      by_cases h0 : 0 ≤ ofL f j
      · rw [if_pos ⟨⟨hl, h0, by omega⟩, hb⟩]
      · rw [if_neg (fun h => h0 h.1.2.1)]; unfold stillF; rw [if_pos hl]; omega
    · rw [if_neg hb, if_neg (fun h => hb h.2)]; unfold stillF; rw [if_pos hl]
  · rw [if_neg hl, if_neg (fun h => hl h.1.1)]; unfold stillF; rw [if_neg hl]
theorem ge_is {f g : List Int} (hf : isC f = true) (hg : isC g = true) (hl : f.length = g.length) {ld : Nat} {T' G' : Nat → Int}
    (h1 : ∀ j, j < 6 → T' j = if j < f.length then (if ld.testBit j = true then ofL f j else -1) else 0) (h2 : ∀ j, j < 6 → G' j = if j < g.length then (if ld.testBit j = true then ofL g j else -1) else 0) :
    (T' 0 == G' 0 && (T' 1 == G' 1 && (T' 2 == G' 2 && (T' 3 == G' 3 && (T' 4 == G' 4 && T' 5 == G' 5))))) = geB f g ld := by
  have h6 := (isC_len hf).2
  unfold geB
  rw [Bool.eq_iff_iff, decide_eq_true_eq]
  simp only [Bool.and_eq_true, beq_iff_eq]
  constructor
  · rintro ⟨t0, t1, t2, t3, t4, t5⟩ j hj hb
    have key : T' j = G' j := by
      rcases (show j = 0 ∨ j = 1 ∨ j = 2 ∨ j = 3 ∨ j = 4 ∨ j = 5 by omega) with rfl | rfl | rfl | rfl | rfl | rfl
      · exact t0
      · exact t1
      · exact t2
      · exact t3
      · exact t4
      · exact t5
    rw [h1 j (by omega), h2 j (by omega), if_pos hj, if_pos (show j < g.length by omega), if_pos hb] at key
    try rw [if_pos hb] at key
    exact key
  · intro h
    have key : ∀ j, j < 6 → T' j = G' j := fun j hj => by
      rw [h1 j hj, h2 j hj]
      by_cases hl2 : j < f.length
      · rw [if_pos hl2, if_pos (show j < g.length by omega)]
        by_cases hb : ld.testBit j = true
        · simp only [hb, if_true]; exact h j hl2 hb
        · simp [hb]
      · rw [if_neg hl2, if_neg (show ¬ j < g.length by omega)]
    exact ⟨key 0 (by omega), key 1 (by omega), key 2 (by omega), key 3 (by omega), key 4 (by omega), key 5 (by omega)⟩
theorem blk_far9g {W : World} {b g : Nat} {t : TypeId} {cs : Array Value} (h : Blk W b t cs) (hp : b ≠ g) (v0 v1 v2 v3 v4 v5 v6 v7 v8 : Value) : Blk (((((((((W.setCell ⟨g, 0, none⟩ v0).setCell ⟨g, 1, none⟩ v1).setCell ⟨g, 2, none⟩ v2).setCell ⟨g, 3, none⟩ v3).setCell ⟨g, 4, none⟩ v4).setCell ⟨g, 5, none⟩ v5).setCell ⟨g, 6, none⟩ v6).setCell ⟨g, 7, none⟩ v7).setCell ⟨g, 8, none⟩ v8) b t cs := ((((((((h.far hp _).far hp _).far hp _).far hp _).far hp _).far hp _).far hp _).far hp _).far hp _
theorem blk_put9g {W : World} {g : Nat} {t : TypeId} {x0 x1 x2 x3 x4 x5 x6 x7 x8 : Value} (h : Blk W g t #[x0, x1, x2, x3, x4, x5, x6, x7, x8]) (v0 v1 v2 v3 v4 v5 v6 v7 v8 : Value) : Blk (((((((((W.setCell ⟨g, 0, none⟩ v0).setCell ⟨g, 1, none⟩ v1).setCell ⟨g, 2, none⟩ v2).setCell ⟨g, 3, none⟩ v3).setCell ⟨g, 4, none⟩ v4).setCell ⟨g, 5, none⟩ v5).setCell ⟨g, 6, none⟩ v6).setCell ⟨g, 7, none⟩ v7).setCell ⟨g, 8, none⟩ v8) g t #[v0, v1, v2, v3, v4, v5, v6, v7, v8] := by
  have h2 := ((((((((h.set_ 0 v0).set_ 1 v1).set_ 2 v2).set_ 3 v3).set_ 4 v4).set_ 5 v5).set_ 6 v6).set_ 7 v7).set_ 8 v8
  simp only [List.setIfInBounds_toArray, List.set_cons_zero, List.set_cons_succ] at h2
  exact h2
theorem bel_put9g {B : Nat} {a W : World} {g : Nat} (h : Below B a W) (hg : B ≤ g) (v0 v1 v2 v3 v4 v5 v6 v7 v8 : Value) : Below B a (((((((((W.setCell ⟨g, 0, none⟩ v0).setCell ⟨g, 1, none⟩ v1).setCell ⟨g, 2, none⟩ v2).setCell ⟨g, 3, none⟩ v3).setCell ⟨g, 4, none⟩ v4).setCell ⟨g, 5, none⟩ v5).setCell ⟨g, 6, none⟩ v6).setCell ⟨g, 7, none⟩ v7).setCell ⟨g, 8, none⟩ v8) := ((((((((h.setCell (p := ⟨g, 0, none⟩) hg v0).setCell (p := ⟨g, 1, none⟩) hg v1).setCell (p := ⟨g, 2, none⟩) hg v2).setCell (p := ⟨g, 3, none⟩) hg v3).setCell (p := ⟨g, 4, none⟩) hg v4).setCell (p := ⟨g, 5, none⟩) hg v5).setCell (p := ⟨g, 6, none⟩) hg v6).setCell (p := ⟨g, 7, none⟩) hg v7).setCell (p := ⟨g, 8, none⟩) hg v8

set_option maxHeartbeats 4000000 in
theorem implGsame_any (A B C : Option Addr) (n c m d m' d' : Nat) (zs : List (List Int)) (f g : List Int) (p : Int) (w : World) (h : RSS w A n zs) (hf : RI w B m f) (hg : RI w C m' g) (he : EtAt w) :
    Calls Tryz.prog 29 #[.slice A n c, .slice B m d, .slice C m' d', .int .i64 p] w fun e w' => e = .returned (.bool (giB zs f g p)) ∧ Below w.heap.size w w' := by
  have HGI : Hid (giB zs f g p = (decide (f ∈ atLs zs p) && (decide (g ∈ atLs zs p) && geB f g (ldN (atLs zs p))))) := rfl
  have HLA : Hid (∀ L ∈ atLs zs p, isC L = true ∧ L.length = m0 zs) := fun L h => by
    obtain ⟨hS, _, _, hz, _⟩ := atLs_mem h
    exact (sgS_iff.1 hS).ch L hz
  have hq : (atLs zs p).length ≤ 1048576 := by have := atLs_len zs p; omega
  have hAt := arrowsAt_any A n c zs p w h he
  have hF : ∀ W, Below w.heap.size w W → Calls Tryz.prog 51 #[.slice B m d] W (OfPost f W) := fun W hW => chartOf_any B m d f W (hf.below hW)
  have hG' : ∀ W, Below w.heap.size w W → Calls Tryz.prog 51 #[.slice C m' d'] W (OfPost g W) := fun W hW => chartOf_any C m' d' g W (hg.below hW)
  have HF := Lib.hid hF
  have HG := Lib.hid hG'
  clear h hf hg he hF hG'
  go_enter Tryz.func29, Tryz.ntmps29
  go_wp2_with fail
  refine hAt.mono ?_
  rintro e w1 ⟨v, rfl, hown, hb1⟩
  obtain ⟨Av, cv, rfl⟩ := own_shape hown
  have hc1 := HF.out w1 hb1
  have hs1 := hb1.size
  clear hAt
  go_wp2_with fail
  refine hc1.mono ?_
  rintro e w2 ⟨k, T, rfl, hy, hno, hb2⟩
  have hown2 := own_below hown hb2
  have hB2 := hb1.trans (hb2.mono hs1)
  have hk : k ≤ 6 := by
    cases hc : isC f
    · have := (hno hc).1; omega
    · have := (hy hc).1; have := (isC_len hc).2; omega
  have hT : Ok k T := by
    cases hc : isC f
    · rw [(hno hc).1]; exact fun j hj => absurd hj (Nat.not_lt_zero j)
    · obtain ⟨e1, e2⟩ := hy hc
      rw [e1]
      exact (ent_ok (isC_len hc).2 (isC_ent hc)).congr (fun j hj => e2 j hj) (isC_len hc).2
  have HY := Lib.hid hy
  have HNO := Lib.hid hno
  clear hown hb1 hb2 hc1 hy hno hs1
  go_wp2_with fail
  have hBx := hB2.alloc hB2.size (.cells #[.int .i64 ((k : Int)), .int .i64 (T 0), .int .i64 (T 1), .int .i64 (T 2), .int .i64 (T 3), .int .i64 (T 4), .int .i64 (T 5)] 61)
  have hcx := Cb.new w2 k T
  have hownx := hown2.alloc (.cells #[.int .i64 ((k : Int)), .int .i64 (T 0), .int .i64 (T 1), .int .i64 (T 2), .int .i64 (T 3), .int .i64 (T 4), .int .i64 (T 5)] 61)
  have hc2 := HG.out _ hBx
  have hs2 := hBx.size
  clear hown2 hB2
  go_wp2_with fail
  refine hc2.mono ?_
  rintro e w3 ⟨k2, G, rfl, hy2, hno2, hb3⟩
  have hk2 : k2 ≤ 6 := by
    cases hc : isC g
    · have := (hno2 hc).1; omega
    · have := (hy2 hc).1; have := (isC_len hc).2; omega
  have hG : Ok k2 G := by
    cases hc : isC g
    · rw [(hno2 hc).1]; exact fun j hj => absurd hj (Nat.not_lt_zero j)
    · obtain ⟨e1, e2⟩ := hy2 hc
      rw [e1]
      exact (ent_ok (isC_len hc).2 (isC_ent hc)).congr (fun j hj => e2 j hj) (isC_len hc).2
  have HY2 := Lib.hid hy2
  have HNO2 := Lib.hid hno2
  have hc3 := hcx.below hb3 hcx.lt
  have hown3 := own_below hownx hb3
  have hB3 := hBx.trans (hb3.mono hs2)
  clear hBx hcx hownx hc2 hb3 hs2 hy2 hno2
  go_wp2_with fail
  have hc0 := hc3.alloc (.cells #[.int .i64 ((k2 : Int)), .int .i64 (G 0), .int .i64 (G 1), .int .i64 (G 2), .int .i64 (G 3), .int .i64 (G 4), .int .i64 (G 5)] 61)
  have hd0 := Cb.new w3 k2 G
  have hown0 := hown3.alloc (.cells #[.int .i64 ((k2 : Int)), .int .i64 (G 0), .int .i64 (G 1), .int .i64 (G 2), .int .i64 (G 3), .int .i64 (G 4), .int .i64 (G 5)] 61)
  have hB0 := hB3.alloc hB3.size (.cells #[.int .i64 ((k2 : Int)), .int .i64 (G 0), .int .i64 (G 1), .int .i64 (G 2), .int .i64 (G 3), .int .i64 (G 4), .int .i64 (G 5)] 61)
  clear hc3 hown3 hB3
  generalize w3.alloc (.cells #[.int .i64 ((k2 : Int)), .int .i64 (G 0), .int .i64 (G 1), .int .i64 (G 2), .int .i64 (G 3), .int .i64 (G 4), .int .i64 (G 5)] 61) = V0 at *
  generalize w2.heap.size = bc at *
  generalize w3.heap.size = bd at *
  have hV : Below V0.heap.size V0 V0 := Below.refl _ _
  rename_i K1 aK1
  apply kcutQ (fun F : Nat → Nat → Act => Hid (∀ (W : World) (x y : Nat), Blk W x 65 #[(.int .i64 (k : Int)), (.int .i64 (T 0)), (.int .i64 (T 1)), (.int .i64 (T 2)), (.int .i64 (T 3)), (.int .i64 (T 4)), (.int .i64 (T 5)), (.int .i64 (domL (mv T k) : Nat)), (.int .i64 (imN k T : Nat))] → Blk W y 65 #[(.int .i64 (k2 : Int)), (.int .i64 (G 0)), (.int .i64 (G 1)), (.int .i64 (G 2)), (.int .i64 (G 3)), (.int .i64 (G 4)), (.int .i64 (G 5)), (.int .i64 (domL (mv G k2) : Nat)), (.int .i64 (imN k2 G : Nat))] → Below V0.heap.size V0 W → K1 (F x y) W))
  case h1 =>
    intro HK
    refine wp_region_held_drew (S := (fun w' => w'.cell? ⟨bc, 0, none⟩ = some (.int .i64 (k : Int)) ∧ w'.cell? ⟨bc, 1, none⟩ = some (.int .i64 (T 0)) ∧ w'.cell? ⟨bc, 2, none⟩ = some (.int .i64 (T 1)) ∧ w'.cell? ⟨bc, 3, none⟩ = some (.int .i64 (T 2)) ∧ w'.cell? ⟨bc, 4, none⟩ = some (.int .i64 (T 3)) ∧ w'.cell? ⟨bc, 5, none⟩ = some (.int .i64 (T 4)) ∧ w'.cell? ⟨bc, 6, none⟩ = some (.int .i64 (T 5)) ∧ w'.cell? ⟨bd, 0, none⟩ = some (.int .i64 (k2 : Int)) ∧ w'.cell? ⟨bd, 1, none⟩ = some (.int .i64 (G 0)) ∧ w'.cell? ⟨bd, 2, none⟩ = some (.int .i64 (G 1)) ∧ w'.cell? ⟨bd, 3, none⟩ = some (.int .i64 (G 2)) ∧ w'.cell? ⟨bd, 4, none⟩ = some (.int .i64 (G 3)) ∧ w'.cell? ⟨bd, 5, none⟩ = some (.int .i64 (G 4)) ∧ w'.cell? ⟨bd, 6, none⟩ = some (.int .i64 (G 5)))) (by kernel_rfl) ?_ (fun hHeld => ?_)
    · exact s14 hc0 hd0
    replace hV : Below V0.heap.size V0 V0.drew := (Below.refl _ _).drew
    clear hHeld
    generalize V0.drew = D0 at *
    refine wpAnyH_take (i := 0) (v := .agg #[.int .i64 ((k : Int)), .int .i64 (T 0), .int .i64 (T 1), .int .i64 (T 2), .int .i64 (T 3), .int .i64 (T 4), .int .i64 (T 5)]) (by rw [List.getElem?_toArray]; rfl) (by kernel_rfl) (by kernel_rfl) (by kernel_rfl) (by exact fun _ _ _ h => h) (Or.inl ⟨by rfl, fun w hSw => by (try dsimp only at hSw); go_simp⟩) (s14 (hc0.below hV hc0.lt) (hd0.below hV hd0.lt)) ?_
    try simp only [Act.put, List.setIfInBounds_toArray, List.set_cons_zero, List.set_cons_succ]
    refine wpAnyH_take (i := 2) (v := .agg #[.int .i64 ((k2 : Int)), .int .i64 (G 0), .int .i64 (G 1), .int .i64 (G 2), .int .i64 (G 3), .int .i64 (G 4), .int .i64 (G 5)]) (by rw [List.getElem?_toArray]; rfl) (by kernel_rfl) (by kernel_rfl) (by kernel_rfl) (by exact fun _ _ _ h => h) (Or.inl ⟨by rfl, fun w hSw => by (try dsimp only at hSw); go_simp⟩) (s14 (hc0.below hV hc0.lt) (hd0.below hV hd0.lt)) ?_
    try simp only [Act.put, List.setIfInBounds_toArray, List.set_cons_zero, List.set_cons_succ]
    refine wpAnyH_ready (rs := [1, 4, 5]) (by kernel_rfl) (by simp) ?_
    refine AllReadyH.cons (o := _) (by rw [List.getElem?_toArray]; rfl) (fun K hK => ?_) ?_
    · go_simp
      refine (arrowOf_any k hk T hT _).mono ?_
      rintro e V1 ⟨rfl, hb1⟩
      replace hV := bel_keep hb1 hV rfl rfl rfl rfl hV.size
      clear hb1
      refine hK.out _ _ ?_ (fun hHeld1 => ?_)
      · exact s14 (hc0.below hV hc0.lt) (hd0.below hV hd0.lt)
      clear hK K hHeld1
      try simp only [Act.put, List.setIfInBounds_toArray, List.set_cons_zero, List.set_cons_succ]
      refine wpAnyH_ready (rs := [3, 4, 5]) (by kernel_rfl) (by simp) ?_
      refine AllReadyH.cons (o := _) (by rw [List.getElem?_toArray]; rfl) (fun K hK => ?_) ?_
      · go_simp
        refine (arrowOf_any k2 hk2 G hG _).mono ?_
        rintro e V2 ⟨rfl, hb1⟩
        replace hV := bel_keep hb1 hV rfl rfl rfl rfl hV.size
        clear hb1
        refine hK.out _ _ ?_ (fun hHeld2 => ?_)
        · exact s14 (hc0.below hV hc0.lt) (hd0.below hV hd0.lt)
        clear hK K hHeld2
        try simp only [Act.put, List.setIfInBounds_toArray, List.set_cons_zero, List.set_cons_succ]
        refine wpAnyH_ready (rs := [4, 5]) (by kernel_rfl) (by simp) ?_
        refine AllReadyH.cons (o := _) (by rw [List.getElem?_toArray]; rfl) (fun K hK => ?_) ?_
        · go_simp
          have hsz10 := hV.size
          replace hV := hV.alloc hV.size (.cells #[.int .i64 0, .int .i64 0, .int .i64 0, .int .i64 0, .int .i64 0, .int .i64 0, .int .i64 0, .int .i64 0, .int .i64 0] 65)
          have hA10 := Blk.new V2 65 #[.int .i64 0, .int .i64 0, .int .i64 0, .int .i64 0, .int .i64 0, .int .i64 0, .int .i64 0, .int .i64 0, .int .i64 0]
          refine hK.out _ _ ?_ (fun hHeld3 => ?_)
          · exact s14 (hc0.below hV hc0.lt) (hd0.below hV hd0.lt)
          clear hK K hHeld3
          generalize V2.alloc (.cells #[.int .i64 0, .int .i64 0, .int .i64 0, .int .i64 0, .int .i64 0, .int .i64 0, .int .i64 0, .int .i64 0, .int .i64 0] 65) = U10V2 at *
          generalize V2.heap.size = a10 at *
          try simp only [Act.put, List.setIfInBounds_toArray, List.set_cons_zero, List.set_cons_succ]
          refine wpAnyH_ready (rs := [5]) (by kernel_rfl) (by simp) ?_
          refine AllReadyH.cons (o := _) (by rw [List.getElem?_toArray]; rfl) (fun K hK => ?_) AllReadyH.nil
          go_simp
          have hsz11 := hV.size
          have hne := hA10.lt
          replace hA10 := hA10.alloc (.cells #[.int .i64 0, .int .i64 0, .int .i64 0, .int .i64 0, .int .i64 0, .int .i64 0, .int .i64 0, .int .i64 0, .int .i64 0] 65)
          replace hV := hV.alloc hV.size (.cells #[.int .i64 0, .int .i64 0, .int .i64 0, .int .i64 0, .int .i64 0, .int .i64 0, .int .i64 0, .int .i64 0, .int .i64 0] 65)
          have hA11 := Blk.new U10V2 65 #[.int .i64 0, .int .i64 0, .int .i64 0, .int .i64 0, .int .i64 0, .int .i64 0, .int .i64 0, .int .i64 0, .int .i64 0]
          refine hK.out _ _ ?_ (fun hHeld4 => ?_)
          · exact s14 (hc0.below hV hc0.lt) (hd0.below hV hd0.lt)
          clear hK K hHeld4
          generalize U10V2.alloc (.cells #[.int .i64 0, .int .i64 0, .int .i64 0, .int .i64 0, .int .i64 0, .int .i64 0, .int .i64 0, .int .i64 0, .int .i64 0] 65) = U11U10V2 at *
          generalize U10V2.heap.size = a11 at *
          try simp only [Act.put, List.setIfInBounds_toArray, List.set_cons_zero, List.set_cons_succ]
          refine wpAnyH_ready (rs := [6]) (by kernel_rfl) (by simp) ?_
          refine AllReadyH.cons (o := _) (by rw [List.getElem?_toArray]; rfl) (fun K hK => ?_) AllReadyH.nil
          have hq := b9 hA10
          have q0 := hq.1
          have q1 := hq.2.1
          have q2 := hq.2.2.1
          have q3 := hq.2.2.2.1
          have q4 := hq.2.2.2.2.1
          have q5 := hq.2.2.2.2.2.1
          have q6 := hq.2.2.2.2.2.2.1
          have q7 := hq.2.2.2.2.2.2.2.1
          have q8 := hq.2.2.2.2.2.2.2.2.1
          have f0 := hq.2.2.2.2.2.2.2.2.2.1
          have f1 := hq.2.2.2.2.2.2.2.2.2.2.1
          have f2 := hq.2.2.2.2.2.2.2.2.2.2.2.1
          have f3 := hq.2.2.2.2.2.2.2.2.2.2.2.2.1
          have f4 := hq.2.2.2.2.2.2.2.2.2.2.2.2.2.1
          have f5 := hq.2.2.2.2.2.2.2.2.2.2.2.2.2.2.1
          have f6 := hq.2.2.2.2.2.2.2.2.2.2.2.2.2.2.2.1
          have f7 := hq.2.2.2.2.2.2.2.2.2.2.2.2.2.2.2.2.1
          have f8 := hq.2.2.2.2.2.2.2.2.2.2.2.2.2.2.2.2.2.1
          have hlt := hq.2.2.2.2.2.2.2.2.2.2.2.2.2.2.2.2.2.2
          clear hq
          go_simp
          replace hA11 := blk_far9g hA11 (show a11 ≠ a10 by omega) (.int .i64 (k : Int)) (.int .i64 (T 0)) (.int .i64 (T 1)) (.int .i64 (T 2)) (.int .i64 (T 3)) (.int .i64 (T 4)) (.int .i64 (T 5)) (.int .i64 (domL (mv T k) : Nat)) (.int .i64 (imN k T : Nat))
          replace hA10 := blk_put9g hA10 (.int .i64 (k : Int)) (.int .i64 (T 0)) (.int .i64 (T 1)) (.int .i64 (T 2)) (.int .i64 (T 3)) (.int .i64 (T 4)) (.int .i64 (T 5)) (.int .i64 (domL (mv T k) : Nat)) (.int .i64 (imN k T : Nat))
          replace hV := bel_put9g hV (show V0.heap.size ≤ a10 by omega) (.int .i64 (k : Int)) (.int .i64 (T 0)) (.int .i64 (T 1)) (.int .i64 (T 2)) (.int .i64 (T 3)) (.int .i64 (T 4)) (.int .i64 (T 5)) (.int .i64 (domL (mv T k) : Nat)) (.int .i64 (imN k T : Nat))
          clear q0 q1 q2 q3 q4 q5 q6 q7 q8 f0 f1 f2 f3 f4 f5 f6 f7 f8 hlt
          refine hK.out _ _ ?_ (fun hHeld5 => ?_)
          · exact s14 (hc0.below hV hc0.lt) (hd0.below hV hd0.lt)
          clear hK K hHeld5
          generalize (((((((((U11U10V2.setCell ⟨a10, 0, none⟩ (.int .i64 (k : Int))).setCell ⟨a10, 1, none⟩ (.int .i64 (T 0))).setCell ⟨a10, 2, none⟩ (.int .i64 (T 1))).setCell ⟨a10, 3, none⟩ (.int .i64 (T 2))).setCell ⟨a10, 4, none⟩ (.int .i64 (T 3))).setCell ⟨a10, 5, none⟩ (.int .i64 (T 4))).setCell ⟨a10, 6, none⟩ (.int .i64 (T 5))).setCell ⟨a10, 7, none⟩ (.int .i64 (domL (mv T k) : Nat))).setCell ⟨a10, 8, none⟩ (.int .i64 (imN k T : Nat))) = X6 at *
          try simp only [Act.put, List.setIfInBounds_toArray, List.set_cons_zero, List.set_cons_succ]
          refine wpAnyH_ready (rs := [7]) (by kernel_rfl) (by simp) ?_
          refine AllReadyH.cons (o := _) (by rw [List.getElem?_toArray]; rfl) (fun K hK => ?_) AllReadyH.nil
          have hq := b9 hA11
          have q0 := hq.1
          have q1 := hq.2.1
          have q2 := hq.2.2.1
          have q3 := hq.2.2.2.1
          have q4 := hq.2.2.2.2.1
          have q5 := hq.2.2.2.2.2.1
          have q6 := hq.2.2.2.2.2.2.1
          have q7 := hq.2.2.2.2.2.2.2.1
          have q8 := hq.2.2.2.2.2.2.2.2.1
          have f0 := hq.2.2.2.2.2.2.2.2.2.1
          have f1 := hq.2.2.2.2.2.2.2.2.2.2.1
          have f2 := hq.2.2.2.2.2.2.2.2.2.2.2.1
          have f3 := hq.2.2.2.2.2.2.2.2.2.2.2.2.1
          have f4 := hq.2.2.2.2.2.2.2.2.2.2.2.2.2.1
          have f5 := hq.2.2.2.2.2.2.2.2.2.2.2.2.2.2.1
          have f6 := hq.2.2.2.2.2.2.2.2.2.2.2.2.2.2.2.1
          have f7 := hq.2.2.2.2.2.2.2.2.2.2.2.2.2.2.2.2.1
          have f8 := hq.2.2.2.2.2.2.2.2.2.2.2.2.2.2.2.2.2.1
          have hlt := hq.2.2.2.2.2.2.2.2.2.2.2.2.2.2.2.2.2.2
          clear hq
          go_simp
          replace hA10 := blk_far9g hA10 (show a10 ≠ a11 by omega) (.int .i64 (k2 : Int)) (.int .i64 (G 0)) (.int .i64 (G 1)) (.int .i64 (G 2)) (.int .i64 (G 3)) (.int .i64 (G 4)) (.int .i64 (G 5)) (.int .i64 (domL (mv G k2) : Nat)) (.int .i64 (imN k2 G : Nat))
          replace hA11 := blk_put9g hA11 (.int .i64 (k2 : Int)) (.int .i64 (G 0)) (.int .i64 (G 1)) (.int .i64 (G 2)) (.int .i64 (G 3)) (.int .i64 (G 4)) (.int .i64 (G 5)) (.int .i64 (domL (mv G k2) : Nat)) (.int .i64 (imN k2 G : Nat))
          replace hV := bel_put9g hV (show V0.heap.size ≤ a11 by omega) (.int .i64 (k2 : Int)) (.int .i64 (G 0)) (.int .i64 (G 1)) (.int .i64 (G 2)) (.int .i64 (G 3)) (.int .i64 (G 4)) (.int .i64 (G 5)) (.int .i64 (domL (mv G k2) : Nat)) (.int .i64 (imN k2 G : Nat))
          clear q0 q1 q2 q3 q4 q5 q6 q7 q8 f0 f1 f2 f3 f4 f5 f6 f7 f8 hlt
          refine hK.out _ _ ?_ (fun hHeld6 => ?_)
          · exact s14 (hc0.below hV hc0.lt) (hd0.below hV hd0.lt)
          clear hK K hHeld6
          generalize (((((((((X6.setCell ⟨a11, 0, none⟩ (.int .i64 (k2 : Int))).setCell ⟨a11, 1, none⟩ (.int .i64 (G 0))).setCell ⟨a11, 2, none⟩ (.int .i64 (G 1))).setCell ⟨a11, 3, none⟩ (.int .i64 (G 2))).setCell ⟨a11, 4, none⟩ (.int .i64 (G 3))).setCell ⟨a11, 5, none⟩ (.int .i64 (G 4))).setCell ⟨a11, 6, none⟩ (.int .i64 (G 5))).setCell ⟨a11, 7, none⟩ (.int .i64 (domL (mv G k2) : Nat))).setCell ⟨a11, 8, none⟩ (.int .i64 (imN k2 G : Nat))) = X7 at *
          try simp only [Act.put, List.setIfInBounds_toArray, List.set_cons_zero, List.set_cons_succ]
          refine wpAnyH_done (by kernel_rfl) ?_ _
          exact HK.out _ a10 a11 hA10 hA11 hV
        refine AllReadyH.cons (o := _) (by rw [List.getElem?_toArray]; rfl) (fun K hK => ?_) AllReadyH.nil
        go_simp
        have hsz11 := hV.size
        replace hV := hV.alloc hV.size (.cells #[.int .i64 0, .int .i64 0, .int .i64 0, .int .i64 0, .int .i64 0, .int .i64 0, .int .i64 0, .int .i64 0, .int .i64 0] 65)
        have hA11 := Blk.new V2 65 #[.int .i64 0, .int .i64 0, .int .i64 0, .int .i64 0, .int .i64 0, .int .i64 0, .int .i64 0, .int .i64 0, .int .i64 0]
        refine hK.out _ _ ?_ (fun hHeld7 => ?_)
        · exact s14 (hc0.below hV hc0.lt) (hd0.below hV hd0.lt)
        clear hK K hHeld7
        generalize V2.alloc (.cells #[.int .i64 0, .int .i64 0, .int .i64 0, .int .i64 0, .int .i64 0, .int .i64 0, .int .i64 0, .int .i64 0, .int .i64 0] 65) = U11V2 at *
        generalize V2.heap.size = a11 at *
        try simp only [Act.put, List.setIfInBounds_toArray, List.set_cons_zero, List.set_cons_succ]
        refine wpAnyH_ready (rs := [4]) (by kernel_rfl) (by simp) ?_
        refine AllReadyH.cons (o := _) (by rw [List.getElem?_toArray]; rfl) (fun K hK => ?_) AllReadyH.nil
        go_simp
        have hsz10 := hV.size
        have hne := hA11.lt
        replace hA11 := hA11.alloc (.cells #[.int .i64 0, .int .i64 0, .int .i64 0, .int .i64 0, .int .i64 0, .int .i64 0, .int .i64 0, .int .i64 0, .int .i64 0] 65)
        replace hV := hV.alloc hV.size (.cells #[.int .i64 0, .int .i64 0, .int .i64 0, .int .i64 0, .int .i64 0, .int .i64 0, .int .i64 0, .int .i64 0, .int .i64 0] 65)
        have hA10 := Blk.new U11V2 65 #[.int .i64 0, .int .i64 0, .int .i64 0, .int .i64 0, .int .i64 0, .int .i64 0, .int .i64 0, .int .i64 0, .int .i64 0]
        refine hK.out _ _ ?_ (fun hHeld8 => ?_)
        · exact s14 (hc0.below hV hc0.lt) (hd0.below hV hd0.lt)
        clear hK K hHeld8
        generalize U11V2.alloc (.cells #[.int .i64 0, .int .i64 0, .int .i64 0, .int .i64 0, .int .i64 0, .int .i64 0, .int .i64 0, .int .i64 0, .int .i64 0] 65) = U10U11V2 at *
        generalize U11V2.heap.size = a10 at *
        try simp only [Act.put, List.setIfInBounds_toArray, List.set_cons_zero, List.set_cons_succ]
        refine wpAnyH_ready (rs := [6]) (by kernel_rfl) (by simp) ?_
        refine AllReadyH.cons (o := _) (by rw [List.getElem?_toArray]; rfl) (fun K hK => ?_) AllReadyH.nil
        have hq := b9 hA10
        have q0 := hq.1
        have q1 := hq.2.1
        have q2 := hq.2.2.1
        have q3 := hq.2.2.2.1
        have q4 := hq.2.2.2.2.1
        have q5 := hq.2.2.2.2.2.1
        have q6 := hq.2.2.2.2.2.2.1
        have q7 := hq.2.2.2.2.2.2.2.1
        have q8 := hq.2.2.2.2.2.2.2.2.1
        have f0 := hq.2.2.2.2.2.2.2.2.2.1
        have f1 := hq.2.2.2.2.2.2.2.2.2.2.1
        have f2 := hq.2.2.2.2.2.2.2.2.2.2.2.1
        have f3 := hq.2.2.2.2.2.2.2.2.2.2.2.2.1
        have f4 := hq.2.2.2.2.2.2.2.2.2.2.2.2.2.1
        have f5 := hq.2.2.2.2.2.2.2.2.2.2.2.2.2.2.1
        have f6 := hq.2.2.2.2.2.2.2.2.2.2.2.2.2.2.2.1
        have f7 := hq.2.2.2.2.2.2.2.2.2.2.2.2.2.2.2.2.1
        have f8 := hq.2.2.2.2.2.2.2.2.2.2.2.2.2.2.2.2.2.1
        have hlt := hq.2.2.2.2.2.2.2.2.2.2.2.2.2.2.2.2.2.2
        clear hq
        go_simp
        replace hA11 := blk_far9g hA11 (show a11 ≠ a10 by omega) (.int .i64 (k : Int)) (.int .i64 (T 0)) (.int .i64 (T 1)) (.int .i64 (T 2)) (.int .i64 (T 3)) (.int .i64 (T 4)) (.int .i64 (T 5)) (.int .i64 (domL (mv T k) : Nat)) (.int .i64 (imN k T : Nat))
        replace hA10 := blk_put9g hA10 (.int .i64 (k : Int)) (.int .i64 (T 0)) (.int .i64 (T 1)) (.int .i64 (T 2)) (.int .i64 (T 3)) (.int .i64 (T 4)) (.int .i64 (T 5)) (.int .i64 (domL (mv T k) : Nat)) (.int .i64 (imN k T : Nat))
        replace hV := bel_put9g hV (show V0.heap.size ≤ a10 by omega) (.int .i64 (k : Int)) (.int .i64 (T 0)) (.int .i64 (T 1)) (.int .i64 (T 2)) (.int .i64 (T 3)) (.int .i64 (T 4)) (.int .i64 (T 5)) (.int .i64 (domL (mv T k) : Nat)) (.int .i64 (imN k T : Nat))
        clear q0 q1 q2 q3 q4 q5 q6 q7 q8 f0 f1 f2 f3 f4 f5 f6 f7 f8 hlt
        refine hK.out _ _ ?_ (fun hHeld9 => ?_)
        · exact s14 (hc0.below hV hc0.lt) (hd0.below hV hd0.lt)
        clear hK K hHeld9
        generalize (((((((((U10U11V2.setCell ⟨a10, 0, none⟩ (.int .i64 (k : Int))).setCell ⟨a10, 1, none⟩ (.int .i64 (T 0))).setCell ⟨a10, 2, none⟩ (.int .i64 (T 1))).setCell ⟨a10, 3, none⟩ (.int .i64 (T 2))).setCell ⟨a10, 4, none⟩ (.int .i64 (T 3))).setCell ⟨a10, 5, none⟩ (.int .i64 (T 4))).setCell ⟨a10, 6, none⟩ (.int .i64 (T 5))).setCell ⟨a10, 7, none⟩ (.int .i64 (domL (mv T k) : Nat))).setCell ⟨a10, 8, none⟩ (.int .i64 (imN k T : Nat))) = X6 at *
        try simp only [Act.put, List.setIfInBounds_toArray, List.set_cons_zero, List.set_cons_succ]
        refine wpAnyH_ready (rs := [7]) (by kernel_rfl) (by simp) ?_
        refine AllReadyH.cons (o := _) (by rw [List.getElem?_toArray]; rfl) (fun K hK => ?_) AllReadyH.nil
        have hq := b9 hA11
        have q0 := hq.1
        have q1 := hq.2.1
        have q2 := hq.2.2.1
        have q3 := hq.2.2.2.1
        have q4 := hq.2.2.2.2.1
        have q5 := hq.2.2.2.2.2.1
        have q6 := hq.2.2.2.2.2.2.1
        have q7 := hq.2.2.2.2.2.2.2.1
        have q8 := hq.2.2.2.2.2.2.2.2.1
        have f0 := hq.2.2.2.2.2.2.2.2.2.1
        have f1 := hq.2.2.2.2.2.2.2.2.2.2.1
        have f2 := hq.2.2.2.2.2.2.2.2.2.2.2.1
        have f3 := hq.2.2.2.2.2.2.2.2.2.2.2.2.1
        have f4 := hq.2.2.2.2.2.2.2.2.2.2.2.2.2.1
        have f5 := hq.2.2.2.2.2.2.2.2.2.2.2.2.2.2.1
        have f6 := hq.2.2.2.2.2.2.2.2.2.2.2.2.2.2.2.1
        have f7 := hq.2.2.2.2.2.2.2.2.2.2.2.2.2.2.2.2.1
        have f8 := hq.2.2.2.2.2.2.2.2.2.2.2.2.2.2.2.2.2.1
        have hlt := hq.2.2.2.2.2.2.2.2.2.2.2.2.2.2.2.2.2.2
        clear hq
        go_simp
        replace hA10 := blk_far9g hA10 (show a10 ≠ a11 by omega) (.int .i64 (k2 : Int)) (.int .i64 (G 0)) (.int .i64 (G 1)) (.int .i64 (G 2)) (.int .i64 (G 3)) (.int .i64 (G 4)) (.int .i64 (G 5)) (.int .i64 (domL (mv G k2) : Nat)) (.int .i64 (imN k2 G : Nat))
        replace hA11 := blk_put9g hA11 (.int .i64 (k2 : Int)) (.int .i64 (G 0)) (.int .i64 (G 1)) (.int .i64 (G 2)) (.int .i64 (G 3)) (.int .i64 (G 4)) (.int .i64 (G 5)) (.int .i64 (domL (mv G k2) : Nat)) (.int .i64 (imN k2 G : Nat))
        replace hV := bel_put9g hV (show V0.heap.size ≤ a11 by omega) (.int .i64 (k2 : Int)) (.int .i64 (G 0)) (.int .i64 (G 1)) (.int .i64 (G 2)) (.int .i64 (G 3)) (.int .i64 (G 4)) (.int .i64 (G 5)) (.int .i64 (domL (mv G k2) : Nat)) (.int .i64 (imN k2 G : Nat))
        clear q0 q1 q2 q3 q4 q5 q6 q7 q8 f0 f1 f2 f3 f4 f5 f6 f7 f8 hlt
        refine hK.out _ _ ?_ (fun hHeld10 => ?_)
        · exact s14 (hc0.below hV hc0.lt) (hd0.below hV hd0.lt)
        clear hK K hHeld10
        generalize (((((((((X6.setCell ⟨a11, 0, none⟩ (.int .i64 (k2 : Int))).setCell ⟨a11, 1, none⟩ (.int .i64 (G 0))).setCell ⟨a11, 2, none⟩ (.int .i64 (G 1))).setCell ⟨a11, 3, none⟩ (.int .i64 (G 2))).setCell ⟨a11, 4, none⟩ (.int .i64 (G 3))).setCell ⟨a11, 5, none⟩ (.int .i64 (G 4))).setCell ⟨a11, 6, none⟩ (.int .i64 (G 5))).setCell ⟨a11, 7, none⟩ (.int .i64 (domL (mv G k2) : Nat))).setCell ⟨a11, 8, none⟩ (.int .i64 (imN k2 G : Nat))) = X7 at *
        try simp only [Act.put, List.setIfInBounds_toArray, List.set_cons_zero, List.set_cons_succ]
        refine wpAnyH_done (by kernel_rfl) ?_ _
        exact HK.out _ a10 a11 hA10 hA11 hV
      refine AllReadyH.cons (o := _) (by rw [List.getElem?_toArray]; rfl) (fun K hK => ?_) ?_
      · go_simp
        have hsz10 := hV.size
        replace hV := hV.alloc hV.size (.cells #[.int .i64 0, .int .i64 0, .int .i64 0, .int .i64 0, .int .i64 0, .int .i64 0, .int .i64 0, .int .i64 0, .int .i64 0] 65)
        have hA10 := Blk.new V1 65 #[.int .i64 0, .int .i64 0, .int .i64 0, .int .i64 0, .int .i64 0, .int .i64 0, .int .i64 0, .int .i64 0, .int .i64 0]
        refine hK.out _ _ ?_ (fun hHeld11 => ?_)
        · exact s14 (hc0.below hV hc0.lt) (hd0.below hV hd0.lt)
        clear hK K hHeld11
        generalize V1.alloc (.cells #[.int .i64 0, .int .i64 0, .int .i64 0, .int .i64 0, .int .i64 0, .int .i64 0, .int .i64 0, .int .i64 0, .int .i64 0] 65) = U10V1 at *
        generalize V1.heap.size = a10 at *
        try simp only [Act.put, List.setIfInBounds_toArray, List.set_cons_zero, List.set_cons_succ]
        refine wpAnyH_ready (rs := [3, 5]) (by kernel_rfl) (by simp) ?_
        refine AllReadyH.cons (o := _) (by rw [List.getElem?_toArray]; rfl) (fun K hK => ?_) ?_
        · go_simp
          refine (arrowOf_any k2 hk2 G hG _).mono ?_
          rintro e V2 ⟨rfl, hb1⟩
          replace hA10 := blk_keep hb1 hA10 rfl
          replace hV := bel_keep hb1 hV rfl rfl rfl rfl hV.size
          clear hb1
          refine hK.out _ _ ?_ (fun hHeld12 => ?_)
          · exact s14 (hc0.below hV hc0.lt) (hd0.below hV hd0.lt)
          clear hK K hHeld12
          try simp only [Act.put, List.setIfInBounds_toArray, List.set_cons_zero, List.set_cons_succ]
          refine wpAnyH_ready (rs := [5]) (by kernel_rfl) (by simp) ?_
          refine AllReadyH.cons (o := _) (by rw [List.getElem?_toArray]; rfl) (fun K hK => ?_) AllReadyH.nil
          go_simp
          have hsz11 := hV.size
          have hne := hA10.lt
          replace hA10 := hA10.alloc (.cells #[.int .i64 0, .int .i64 0, .int .i64 0, .int .i64 0, .int .i64 0, .int .i64 0, .int .i64 0, .int .i64 0, .int .i64 0] 65)
          replace hV := hV.alloc hV.size (.cells #[.int .i64 0, .int .i64 0, .int .i64 0, .int .i64 0, .int .i64 0, .int .i64 0, .int .i64 0, .int .i64 0, .int .i64 0] 65)
          have hA11 := Blk.new V2 65 #[.int .i64 0, .int .i64 0, .int .i64 0, .int .i64 0, .int .i64 0, .int .i64 0, .int .i64 0, .int .i64 0, .int .i64 0]
          refine hK.out _ _ ?_ (fun hHeld13 => ?_)
          · exact s14 (hc0.below hV hc0.lt) (hd0.below hV hd0.lt)
          clear hK K hHeld13
          generalize V2.alloc (.cells #[.int .i64 0, .int .i64 0, .int .i64 0, .int .i64 0, .int .i64 0, .int .i64 0, .int .i64 0, .int .i64 0, .int .i64 0] 65) = U11V2 at *
          generalize V2.heap.size = a11 at *
          try simp only [Act.put, List.setIfInBounds_toArray, List.set_cons_zero, List.set_cons_succ]
          refine wpAnyH_ready (rs := [6]) (by kernel_rfl) (by simp) ?_
          refine AllReadyH.cons (o := _) (by rw [List.getElem?_toArray]; rfl) (fun K hK => ?_) AllReadyH.nil
          have hq := b9 hA10
          have q0 := hq.1
          have q1 := hq.2.1
          have q2 := hq.2.2.1
          have q3 := hq.2.2.2.1
          have q4 := hq.2.2.2.2.1
          have q5 := hq.2.2.2.2.2.1
          have q6 := hq.2.2.2.2.2.2.1
          have q7 := hq.2.2.2.2.2.2.2.1
          have q8 := hq.2.2.2.2.2.2.2.2.1
          have f0 := hq.2.2.2.2.2.2.2.2.2.1
          have f1 := hq.2.2.2.2.2.2.2.2.2.2.1
          have f2 := hq.2.2.2.2.2.2.2.2.2.2.2.1
          have f3 := hq.2.2.2.2.2.2.2.2.2.2.2.2.1
          have f4 := hq.2.2.2.2.2.2.2.2.2.2.2.2.2.1
          have f5 := hq.2.2.2.2.2.2.2.2.2.2.2.2.2.2.1
          have f6 := hq.2.2.2.2.2.2.2.2.2.2.2.2.2.2.2.1
          have f7 := hq.2.2.2.2.2.2.2.2.2.2.2.2.2.2.2.2.1
          have f8 := hq.2.2.2.2.2.2.2.2.2.2.2.2.2.2.2.2.2.1
          have hlt := hq.2.2.2.2.2.2.2.2.2.2.2.2.2.2.2.2.2.2
          clear hq
          go_simp
          replace hA11 := blk_far9g hA11 (show a11 ≠ a10 by omega) (.int .i64 (k : Int)) (.int .i64 (T 0)) (.int .i64 (T 1)) (.int .i64 (T 2)) (.int .i64 (T 3)) (.int .i64 (T 4)) (.int .i64 (T 5)) (.int .i64 (domL (mv T k) : Nat)) (.int .i64 (imN k T : Nat))
          replace hA10 := blk_put9g hA10 (.int .i64 (k : Int)) (.int .i64 (T 0)) (.int .i64 (T 1)) (.int .i64 (T 2)) (.int .i64 (T 3)) (.int .i64 (T 4)) (.int .i64 (T 5)) (.int .i64 (domL (mv T k) : Nat)) (.int .i64 (imN k T : Nat))
          replace hV := bel_put9g hV (show V0.heap.size ≤ a10 by omega) (.int .i64 (k : Int)) (.int .i64 (T 0)) (.int .i64 (T 1)) (.int .i64 (T 2)) (.int .i64 (T 3)) (.int .i64 (T 4)) (.int .i64 (T 5)) (.int .i64 (domL (mv T k) : Nat)) (.int .i64 (imN k T : Nat))
          clear q0 q1 q2 q3 q4 q5 q6 q7 q8 f0 f1 f2 f3 f4 f5 f6 f7 f8 hlt
          refine hK.out _ _ ?_ (fun hHeld14 => ?_)
          · exact s14 (hc0.below hV hc0.lt) (hd0.below hV hd0.lt)
          clear hK K hHeld14
          generalize (((((((((U11V2.setCell ⟨a10, 0, none⟩ (.int .i64 (k : Int))).setCell ⟨a10, 1, none⟩ (.int .i64 (T 0))).setCell ⟨a10, 2, none⟩ (.int .i64 (T 1))).setCell ⟨a10, 3, none⟩ (.int .i64 (T 2))).setCell ⟨a10, 4, none⟩ (.int .i64 (T 3))).setCell ⟨a10, 5, none⟩ (.int .i64 (T 4))).setCell ⟨a10, 6, none⟩ (.int .i64 (T 5))).setCell ⟨a10, 7, none⟩ (.int .i64 (domL (mv T k) : Nat))).setCell ⟨a10, 8, none⟩ (.int .i64 (imN k T : Nat))) = X6 at *
          try simp only [Act.put, List.setIfInBounds_toArray, List.set_cons_zero, List.set_cons_succ]
          refine wpAnyH_ready (rs := [7]) (by kernel_rfl) (by simp) ?_
          refine AllReadyH.cons (o := _) (by rw [List.getElem?_toArray]; rfl) (fun K hK => ?_) AllReadyH.nil
          have hq := b9 hA11
          have q0 := hq.1
          have q1 := hq.2.1
          have q2 := hq.2.2.1
          have q3 := hq.2.2.2.1
          have q4 := hq.2.2.2.2.1
          have q5 := hq.2.2.2.2.2.1
          have q6 := hq.2.2.2.2.2.2.1
          have q7 := hq.2.2.2.2.2.2.2.1
          have q8 := hq.2.2.2.2.2.2.2.2.1
          have f0 := hq.2.2.2.2.2.2.2.2.2.1
          have f1 := hq.2.2.2.2.2.2.2.2.2.2.1
          have f2 := hq.2.2.2.2.2.2.2.2.2.2.2.1
          have f3 := hq.2.2.2.2.2.2.2.2.2.2.2.2.1
          have f4 := hq.2.2.2.2.2.2.2.2.2.2.2.2.2.1
          have f5 := hq.2.2.2.2.2.2.2.2.2.2.2.2.2.2.1
          have f6 := hq.2.2.2.2.2.2.2.2.2.2.2.2.2.2.2.1
          have f7 := hq.2.2.2.2.2.2.2.2.2.2.2.2.2.2.2.2.1
          have f8 := hq.2.2.2.2.2.2.2.2.2.2.2.2.2.2.2.2.2.1
          have hlt := hq.2.2.2.2.2.2.2.2.2.2.2.2.2.2.2.2.2.2
          clear hq
          go_simp
          replace hA10 := blk_far9g hA10 (show a10 ≠ a11 by omega) (.int .i64 (k2 : Int)) (.int .i64 (G 0)) (.int .i64 (G 1)) (.int .i64 (G 2)) (.int .i64 (G 3)) (.int .i64 (G 4)) (.int .i64 (G 5)) (.int .i64 (domL (mv G k2) : Nat)) (.int .i64 (imN k2 G : Nat))
          replace hA11 := blk_put9g hA11 (.int .i64 (k2 : Int)) (.int .i64 (G 0)) (.int .i64 (G 1)) (.int .i64 (G 2)) (.int .i64 (G 3)) (.int .i64 (G 4)) (.int .i64 (G 5)) (.int .i64 (domL (mv G k2) : Nat)) (.int .i64 (imN k2 G : Nat))
          replace hV := bel_put9g hV (show V0.heap.size ≤ a11 by omega) (.int .i64 (k2 : Int)) (.int .i64 (G 0)) (.int .i64 (G 1)) (.int .i64 (G 2)) (.int .i64 (G 3)) (.int .i64 (G 4)) (.int .i64 (G 5)) (.int .i64 (domL (mv G k2) : Nat)) (.int .i64 (imN k2 G : Nat))
          clear q0 q1 q2 q3 q4 q5 q6 q7 q8 f0 f1 f2 f3 f4 f5 f6 f7 f8 hlt
          refine hK.out _ _ ?_ (fun hHeld15 => ?_)
          · exact s14 (hc0.below hV hc0.lt) (hd0.below hV hd0.lt)
          clear hK K hHeld15
          generalize (((((((((X6.setCell ⟨a11, 0, none⟩ (.int .i64 (k2 : Int))).setCell ⟨a11, 1, none⟩ (.int .i64 (G 0))).setCell ⟨a11, 2, none⟩ (.int .i64 (G 1))).setCell ⟨a11, 3, none⟩ (.int .i64 (G 2))).setCell ⟨a11, 4, none⟩ (.int .i64 (G 3))).setCell ⟨a11, 5, none⟩ (.int .i64 (G 4))).setCell ⟨a11, 6, none⟩ (.int .i64 (G 5))).setCell ⟨a11, 7, none⟩ (.int .i64 (domL (mv G k2) : Nat))).setCell ⟨a11, 8, none⟩ (.int .i64 (imN k2 G : Nat))) = X7 at *
          try simp only [Act.put, List.setIfInBounds_toArray, List.set_cons_zero, List.set_cons_succ]
          refine wpAnyH_done (by kernel_rfl) ?_ _
          exact HK.out _ a10 a11 hA10 hA11 hV
        refine AllReadyH.cons (o := _) (by rw [List.getElem?_toArray]; rfl) (fun K hK => ?_) AllReadyH.nil
        go_simp
        have hsz11 := hV.size
        have hne := hA10.lt
        replace hA10 := hA10.alloc (.cells #[.int .i64 0, .int .i64 0, .int .i64 0, .int .i64 0, .int .i64 0, .int .i64 0, .int .i64 0, .int .i64 0, .int .i64 0] 65)
        replace hV := hV.alloc hV.size (.cells #[.int .i64 0, .int .i64 0, .int .i64 0, .int .i64 0, .int .i64 0, .int .i64 0, .int .i64 0, .int .i64 0, .int .i64 0] 65)
        have hA11 := Blk.new U10V1 65 #[.int .i64 0, .int .i64 0, .int .i64 0, .int .i64 0, .int .i64 0, .int .i64 0, .int .i64 0, .int .i64 0, .int .i64 0]
        refine hK.out _ _ ?_ (fun hHeld16 => ?_)
        · exact s14 (hc0.below hV hc0.lt) (hd0.below hV hd0.lt)
        clear hK K hHeld16
        generalize U10V1.alloc (.cells #[.int .i64 0, .int .i64 0, .int .i64 0, .int .i64 0, .int .i64 0, .int .i64 0, .int .i64 0, .int .i64 0, .int .i64 0] 65) = U11U10V1 at *
        generalize U10V1.heap.size = a11 at *
        try simp only [Act.put, List.setIfInBounds_toArray, List.set_cons_zero, List.set_cons_succ]
        refine wpAnyH_ready (rs := [3]) (by kernel_rfl) (by simp) ?_
        refine AllReadyH.cons (o := _) (by rw [List.getElem?_toArray]; rfl) (fun K hK => ?_) AllReadyH.nil
        go_simp
        refine (arrowOf_any k2 hk2 G hG _).mono ?_
        rintro e V2 ⟨rfl, hb1⟩
        replace hA10 := blk_keep hb1 hA10 rfl
        replace hA11 := blk_keep hb1 hA11 rfl
        replace hV := bel_keep hb1 hV rfl rfl rfl rfl hV.size
        clear hb1
        refine hK.out _ _ ?_ (fun hHeld17 => ?_)
        · exact s14 (hc0.below hV hc0.lt) (hd0.below hV hd0.lt)
        clear hK K hHeld17
        try simp only [Act.put, List.setIfInBounds_toArray, List.set_cons_zero, List.set_cons_succ]
        refine wpAnyH_ready (rs := [6]) (by kernel_rfl) (by simp) ?_
        refine AllReadyH.cons (o := _) (by rw [List.getElem?_toArray]; rfl) (fun K hK => ?_) AllReadyH.nil
        have hq := b9 hA10
        have q0 := hq.1
        have q1 := hq.2.1
        have q2 := hq.2.2.1
        have q3 := hq.2.2.2.1
        have q4 := hq.2.2.2.2.1
        have q5 := hq.2.2.2.2.2.1
        have q6 := hq.2.2.2.2.2.2.1
        have q7 := hq.2.2.2.2.2.2.2.1
        have q8 := hq.2.2.2.2.2.2.2.2.1
        have f0 := hq.2.2.2.2.2.2.2.2.2.1
        have f1 := hq.2.2.2.2.2.2.2.2.2.2.1
        have f2 := hq.2.2.2.2.2.2.2.2.2.2.2.1
        have f3 := hq.2.2.2.2.2.2.2.2.2.2.2.2.1
        have f4 := hq.2.2.2.2.2.2.2.2.2.2.2.2.2.1
        have f5 := hq.2.2.2.2.2.2.2.2.2.2.2.2.2.2.1
        have f6 := hq.2.2.2.2.2.2.2.2.2.2.2.2.2.2.2.1
        have f7 := hq.2.2.2.2.2.2.2.2.2.2.2.2.2.2.2.2.1
        have f8 := hq.2.2.2.2.2.2.2.2.2.2.2.2.2.2.2.2.2.1
        have hlt := hq.2.2.2.2.2.2.2.2.2.2.2.2.2.2.2.2.2.2
        clear hq
        go_simp
        replace hA11 := blk_far9g hA11 (show a11 ≠ a10 by omega) (.int .i64 (k : Int)) (.int .i64 (T 0)) (.int .i64 (T 1)) (.int .i64 (T 2)) (.int .i64 (T 3)) (.int .i64 (T 4)) (.int .i64 (T 5)) (.int .i64 (domL (mv T k) : Nat)) (.int .i64 (imN k T : Nat))
        replace hA10 := blk_put9g hA10 (.int .i64 (k : Int)) (.int .i64 (T 0)) (.int .i64 (T 1)) (.int .i64 (T 2)) (.int .i64 (T 3)) (.int .i64 (T 4)) (.int .i64 (T 5)) (.int .i64 (domL (mv T k) : Nat)) (.int .i64 (imN k T : Nat))
        replace hV := bel_put9g hV (show V0.heap.size ≤ a10 by omega) (.int .i64 (k : Int)) (.int .i64 (T 0)) (.int .i64 (T 1)) (.int .i64 (T 2)) (.int .i64 (T 3)) (.int .i64 (T 4)) (.int .i64 (T 5)) (.int .i64 (domL (mv T k) : Nat)) (.int .i64 (imN k T : Nat))
        clear q0 q1 q2 q3 q4 q5 q6 q7 q8 f0 f1 f2 f3 f4 f5 f6 f7 f8 hlt
        refine hK.out _ _ ?_ (fun hHeld18 => ?_)
        · exact s14 (hc0.below hV hc0.lt) (hd0.below hV hd0.lt)
        clear hK K hHeld18
        generalize (((((((((V2.setCell ⟨a10, 0, none⟩ (.int .i64 (k : Int))).setCell ⟨a10, 1, none⟩ (.int .i64 (T 0))).setCell ⟨a10, 2, none⟩ (.int .i64 (T 1))).setCell ⟨a10, 3, none⟩ (.int .i64 (T 2))).setCell ⟨a10, 4, none⟩ (.int .i64 (T 3))).setCell ⟨a10, 5, none⟩ (.int .i64 (T 4))).setCell ⟨a10, 6, none⟩ (.int .i64 (T 5))).setCell ⟨a10, 7, none⟩ (.int .i64 (domL (mv T k) : Nat))).setCell ⟨a10, 8, none⟩ (.int .i64 (imN k T : Nat))) = X6 at *
        try simp only [Act.put, List.setIfInBounds_toArray, List.set_cons_zero, List.set_cons_succ]
        refine wpAnyH_ready (rs := [7]) (by kernel_rfl) (by simp) ?_
        refine AllReadyH.cons (o := _) (by rw [List.getElem?_toArray]; rfl) (fun K hK => ?_) AllReadyH.nil
        have hq := b9 hA11
        have q0 := hq.1
        have q1 := hq.2.1
        have q2 := hq.2.2.1
        have q3 := hq.2.2.2.1
        have q4 := hq.2.2.2.2.1
        have q5 := hq.2.2.2.2.2.1
        have q6 := hq.2.2.2.2.2.2.1
        have q7 := hq.2.2.2.2.2.2.2.1
        have q8 := hq.2.2.2.2.2.2.2.2.1
        have f0 := hq.2.2.2.2.2.2.2.2.2.1
        have f1 := hq.2.2.2.2.2.2.2.2.2.2.1
        have f2 := hq.2.2.2.2.2.2.2.2.2.2.2.1
        have f3 := hq.2.2.2.2.2.2.2.2.2.2.2.2.1
        have f4 := hq.2.2.2.2.2.2.2.2.2.2.2.2.2.1
        have f5 := hq.2.2.2.2.2.2.2.2.2.2.2.2.2.2.1
        have f6 := hq.2.2.2.2.2.2.2.2.2.2.2.2.2.2.2.1
        have f7 := hq.2.2.2.2.2.2.2.2.2.2.2.2.2.2.2.2.1
        have f8 := hq.2.2.2.2.2.2.2.2.2.2.2.2.2.2.2.2.2.1
        have hlt := hq.2.2.2.2.2.2.2.2.2.2.2.2.2.2.2.2.2.2
        clear hq
        go_simp
        replace hA10 := blk_far9g hA10 (show a10 ≠ a11 by omega) (.int .i64 (k2 : Int)) (.int .i64 (G 0)) (.int .i64 (G 1)) (.int .i64 (G 2)) (.int .i64 (G 3)) (.int .i64 (G 4)) (.int .i64 (G 5)) (.int .i64 (domL (mv G k2) : Nat)) (.int .i64 (imN k2 G : Nat))
        replace hA11 := blk_put9g hA11 (.int .i64 (k2 : Int)) (.int .i64 (G 0)) (.int .i64 (G 1)) (.int .i64 (G 2)) (.int .i64 (G 3)) (.int .i64 (G 4)) (.int .i64 (G 5)) (.int .i64 (domL (mv G k2) : Nat)) (.int .i64 (imN k2 G : Nat))
        replace hV := bel_put9g hV (show V0.heap.size ≤ a11 by omega) (.int .i64 (k2 : Int)) (.int .i64 (G 0)) (.int .i64 (G 1)) (.int .i64 (G 2)) (.int .i64 (G 3)) (.int .i64 (G 4)) (.int .i64 (G 5)) (.int .i64 (domL (mv G k2) : Nat)) (.int .i64 (imN k2 G : Nat))
        clear q0 q1 q2 q3 q4 q5 q6 q7 q8 f0 f1 f2 f3 f4 f5 f6 f7 f8 hlt
        refine hK.out _ _ ?_ (fun hHeld19 => ?_)
        · exact s14 (hc0.below hV hc0.lt) (hd0.below hV hd0.lt)
        clear hK K hHeld19
        generalize (((((((((X6.setCell ⟨a11, 0, none⟩ (.int .i64 (k2 : Int))).setCell ⟨a11, 1, none⟩ (.int .i64 (G 0))).setCell ⟨a11, 2, none⟩ (.int .i64 (G 1))).setCell ⟨a11, 3, none⟩ (.int .i64 (G 2))).setCell ⟨a11, 4, none⟩ (.int .i64 (G 3))).setCell ⟨a11, 5, none⟩ (.int .i64 (G 4))).setCell ⟨a11, 6, none⟩ (.int .i64 (G 5))).setCell ⟨a11, 7, none⟩ (.int .i64 (domL (mv G k2) : Nat))).setCell ⟨a11, 8, none⟩ (.int .i64 (imN k2 G : Nat))) = X7 at *
        try simp only [Act.put, List.setIfInBounds_toArray, List.set_cons_zero, List.set_cons_succ]
        refine wpAnyH_done (by kernel_rfl) ?_ _
        exact HK.out _ a10 a11 hA10 hA11 hV
      refine AllReadyH.cons (o := _) (by rw [List.getElem?_toArray]; rfl) (fun K hK => ?_) AllReadyH.nil
      go_simp
      have hsz11 := hV.size
      replace hV := hV.alloc hV.size (.cells #[.int .i64 0, .int .i64 0, .int .i64 0, .int .i64 0, .int .i64 0, .int .i64 0, .int .i64 0, .int .i64 0, .int .i64 0] 65)
      have hA11 := Blk.new V1 65 #[.int .i64 0, .int .i64 0, .int .i64 0, .int .i64 0, .int .i64 0, .int .i64 0, .int .i64 0, .int .i64 0, .int .i64 0]
      refine hK.out _ _ ?_ (fun hHeld20 => ?_)
      · exact s14 (hc0.below hV hc0.lt) (hd0.below hV hd0.lt)
      clear hK K hHeld20
      generalize V1.alloc (.cells #[.int .i64 0, .int .i64 0, .int .i64 0, .int .i64 0, .int .i64 0, .int .i64 0, .int .i64 0, .int .i64 0, .int .i64 0] 65) = U11V1 at *
      generalize V1.heap.size = a11 at *
      try simp only [Act.put, List.setIfInBounds_toArray, List.set_cons_zero, List.set_cons_succ]
      refine wpAnyH_ready (rs := [3, 4]) (by kernel_rfl) (by simp) ?_
      refine AllReadyH.cons (o := _) (by rw [List.getElem?_toArray]; rfl) (fun K hK => ?_) ?_
      · go_simp
        refine (arrowOf_any k2 hk2 G hG _).mono ?_
        rintro e V2 ⟨rfl, hb1⟩
        replace hA11 := blk_keep hb1 hA11 rfl
        replace hV := bel_keep hb1 hV rfl rfl rfl rfl hV.size
        clear hb1
        refine hK.out _ _ ?_ (fun hHeld21 => ?_)
        · exact s14 (hc0.below hV hc0.lt) (hd0.below hV hd0.lt)
        clear hK K hHeld21
        try simp only [Act.put, List.setIfInBounds_toArray, List.set_cons_zero, List.set_cons_succ]
        refine wpAnyH_ready (rs := [4]) (by kernel_rfl) (by simp) ?_
        refine AllReadyH.cons (o := _) (by rw [List.getElem?_toArray]; rfl) (fun K hK => ?_) AllReadyH.nil
        go_simp
        have hsz10 := hV.size
        have hne := hA11.lt
        replace hA11 := hA11.alloc (.cells #[.int .i64 0, .int .i64 0, .int .i64 0, .int .i64 0, .int .i64 0, .int .i64 0, .int .i64 0, .int .i64 0, .int .i64 0] 65)
        replace hV := hV.alloc hV.size (.cells #[.int .i64 0, .int .i64 0, .int .i64 0, .int .i64 0, .int .i64 0, .int .i64 0, .int .i64 0, .int .i64 0, .int .i64 0] 65)
        have hA10 := Blk.new V2 65 #[.int .i64 0, .int .i64 0, .int .i64 0, .int .i64 0, .int .i64 0, .int .i64 0, .int .i64 0, .int .i64 0, .int .i64 0]
        refine hK.out _ _ ?_ (fun hHeld22 => ?_)
        · exact s14 (hc0.below hV hc0.lt) (hd0.below hV hd0.lt)
        clear hK K hHeld22
        generalize V2.alloc (.cells #[.int .i64 0, .int .i64 0, .int .i64 0, .int .i64 0, .int .i64 0, .int .i64 0, .int .i64 0, .int .i64 0, .int .i64 0] 65) = U10V2 at *
        generalize V2.heap.size = a10 at *
        try simp only [Act.put, List.setIfInBounds_toArray, List.set_cons_zero, List.set_cons_succ]
        refine wpAnyH_ready (rs := [6]) (by kernel_rfl) (by simp) ?_
        refine AllReadyH.cons (o := _) (by rw [List.getElem?_toArray]; rfl) (fun K hK => ?_) AllReadyH.nil
        have hq := b9 hA10
        have q0 := hq.1
        have q1 := hq.2.1
        have q2 := hq.2.2.1
        have q3 := hq.2.2.2.1
        have q4 := hq.2.2.2.2.1
        have q5 := hq.2.2.2.2.2.1
        have q6 := hq.2.2.2.2.2.2.1
        have q7 := hq.2.2.2.2.2.2.2.1
        have q8 := hq.2.2.2.2.2.2.2.2.1
        have f0 := hq.2.2.2.2.2.2.2.2.2.1
        have f1 := hq.2.2.2.2.2.2.2.2.2.2.1
        have f2 := hq.2.2.2.2.2.2.2.2.2.2.2.1
        have f3 := hq.2.2.2.2.2.2.2.2.2.2.2.2.1
        have f4 := hq.2.2.2.2.2.2.2.2.2.2.2.2.2.1
        have f5 := hq.2.2.2.2.2.2.2.2.2.2.2.2.2.2.1
        have f6 := hq.2.2.2.2.2.2.2.2.2.2.2.2.2.2.2.1
        have f7 := hq.2.2.2.2.2.2.2.2.2.2.2.2.2.2.2.2.1
        have f8 := hq.2.2.2.2.2.2.2.2.2.2.2.2.2.2.2.2.2.1
        have hlt := hq.2.2.2.2.2.2.2.2.2.2.2.2.2.2.2.2.2.2
        clear hq
        go_simp
        replace hA11 := blk_far9g hA11 (show a11 ≠ a10 by omega) (.int .i64 (k : Int)) (.int .i64 (T 0)) (.int .i64 (T 1)) (.int .i64 (T 2)) (.int .i64 (T 3)) (.int .i64 (T 4)) (.int .i64 (T 5)) (.int .i64 (domL (mv T k) : Nat)) (.int .i64 (imN k T : Nat))
        replace hA10 := blk_put9g hA10 (.int .i64 (k : Int)) (.int .i64 (T 0)) (.int .i64 (T 1)) (.int .i64 (T 2)) (.int .i64 (T 3)) (.int .i64 (T 4)) (.int .i64 (T 5)) (.int .i64 (domL (mv T k) : Nat)) (.int .i64 (imN k T : Nat))
        replace hV := bel_put9g hV (show V0.heap.size ≤ a10 by omega) (.int .i64 (k : Int)) (.int .i64 (T 0)) (.int .i64 (T 1)) (.int .i64 (T 2)) (.int .i64 (T 3)) (.int .i64 (T 4)) (.int .i64 (T 5)) (.int .i64 (domL (mv T k) : Nat)) (.int .i64 (imN k T : Nat))
        clear q0 q1 q2 q3 q4 q5 q6 q7 q8 f0 f1 f2 f3 f4 f5 f6 f7 f8 hlt
        refine hK.out _ _ ?_ (fun hHeld23 => ?_)
        · exact s14 (hc0.below hV hc0.lt) (hd0.below hV hd0.lt)
        clear hK K hHeld23
        generalize (((((((((U10V2.setCell ⟨a10, 0, none⟩ (.int .i64 (k : Int))).setCell ⟨a10, 1, none⟩ (.int .i64 (T 0))).setCell ⟨a10, 2, none⟩ (.int .i64 (T 1))).setCell ⟨a10, 3, none⟩ (.int .i64 (T 2))).setCell ⟨a10, 4, none⟩ (.int .i64 (T 3))).setCell ⟨a10, 5, none⟩ (.int .i64 (T 4))).setCell ⟨a10, 6, none⟩ (.int .i64 (T 5))).setCell ⟨a10, 7, none⟩ (.int .i64 (domL (mv T k) : Nat))).setCell ⟨a10, 8, none⟩ (.int .i64 (imN k T : Nat))) = X6 at *
        try simp only [Act.put, List.setIfInBounds_toArray, List.set_cons_zero, List.set_cons_succ]
        refine wpAnyH_ready (rs := [7]) (by kernel_rfl) (by simp) ?_
        refine AllReadyH.cons (o := _) (by rw [List.getElem?_toArray]; rfl) (fun K hK => ?_) AllReadyH.nil
        have hq := b9 hA11
        have q0 := hq.1
        have q1 := hq.2.1
        have q2 := hq.2.2.1
        have q3 := hq.2.2.2.1
        have q4 := hq.2.2.2.2.1
        have q5 := hq.2.2.2.2.2.1
        have q6 := hq.2.2.2.2.2.2.1
        have q7 := hq.2.2.2.2.2.2.2.1
        have q8 := hq.2.2.2.2.2.2.2.2.1
        have f0 := hq.2.2.2.2.2.2.2.2.2.1
        have f1 := hq.2.2.2.2.2.2.2.2.2.2.1
        have f2 := hq.2.2.2.2.2.2.2.2.2.2.2.1
        have f3 := hq.2.2.2.2.2.2.2.2.2.2.2.2.1
        have f4 := hq.2.2.2.2.2.2.2.2.2.2.2.2.2.1
        have f5 := hq.2.2.2.2.2.2.2.2.2.2.2.2.2.2.1
        have f6 := hq.2.2.2.2.2.2.2.2.2.2.2.2.2.2.2.1
        have f7 := hq.2.2.2.2.2.2.2.2.2.2.2.2.2.2.2.2.1
        have f8 := hq.2.2.2.2.2.2.2.2.2.2.2.2.2.2.2.2.2.1
        have hlt := hq.2.2.2.2.2.2.2.2.2.2.2.2.2.2.2.2.2.2
        clear hq
        go_simp
        replace hA10 := blk_far9g hA10 (show a10 ≠ a11 by omega) (.int .i64 (k2 : Int)) (.int .i64 (G 0)) (.int .i64 (G 1)) (.int .i64 (G 2)) (.int .i64 (G 3)) (.int .i64 (G 4)) (.int .i64 (G 5)) (.int .i64 (domL (mv G k2) : Nat)) (.int .i64 (imN k2 G : Nat))
        replace hA11 := blk_put9g hA11 (.int .i64 (k2 : Int)) (.int .i64 (G 0)) (.int .i64 (G 1)) (.int .i64 (G 2)) (.int .i64 (G 3)) (.int .i64 (G 4)) (.int .i64 (G 5)) (.int .i64 (domL (mv G k2) : Nat)) (.int .i64 (imN k2 G : Nat))
        replace hV := bel_put9g hV (show V0.heap.size ≤ a11 by omega) (.int .i64 (k2 : Int)) (.int .i64 (G 0)) (.int .i64 (G 1)) (.int .i64 (G 2)) (.int .i64 (G 3)) (.int .i64 (G 4)) (.int .i64 (G 5)) (.int .i64 (domL (mv G k2) : Nat)) (.int .i64 (imN k2 G : Nat))
        clear q0 q1 q2 q3 q4 q5 q6 q7 q8 f0 f1 f2 f3 f4 f5 f6 f7 f8 hlt
        refine hK.out _ _ ?_ (fun hHeld24 => ?_)
        · exact s14 (hc0.below hV hc0.lt) (hd0.below hV hd0.lt)
        clear hK K hHeld24
        generalize (((((((((X6.setCell ⟨a11, 0, none⟩ (.int .i64 (k2 : Int))).setCell ⟨a11, 1, none⟩ (.int .i64 (G 0))).setCell ⟨a11, 2, none⟩ (.int .i64 (G 1))).setCell ⟨a11, 3, none⟩ (.int .i64 (G 2))).setCell ⟨a11, 4, none⟩ (.int .i64 (G 3))).setCell ⟨a11, 5, none⟩ (.int .i64 (G 4))).setCell ⟨a11, 6, none⟩ (.int .i64 (G 5))).setCell ⟨a11, 7, none⟩ (.int .i64 (domL (mv G k2) : Nat))).setCell ⟨a11, 8, none⟩ (.int .i64 (imN k2 G : Nat))) = X7 at *
        try simp only [Act.put, List.setIfInBounds_toArray, List.set_cons_zero, List.set_cons_succ]
        refine wpAnyH_done (by kernel_rfl) ?_ _
        exact HK.out _ a10 a11 hA10 hA11 hV
      refine AllReadyH.cons (o := _) (by rw [List.getElem?_toArray]; rfl) (fun K hK => ?_) AllReadyH.nil
      go_simp
      have hsz10 := hV.size
      have hne := hA11.lt
      replace hA11 := hA11.alloc (.cells #[.int .i64 0, .int .i64 0, .int .i64 0, .int .i64 0, .int .i64 0, .int .i64 0, .int .i64 0, .int .i64 0, .int .i64 0] 65)
      replace hV := hV.alloc hV.size (.cells #[.int .i64 0, .int .i64 0, .int .i64 0, .int .i64 0, .int .i64 0, .int .i64 0, .int .i64 0, .int .i64 0, .int .i64 0] 65)
      have hA10 := Blk.new U11V1 65 #[.int .i64 0, .int .i64 0, .int .i64 0, .int .i64 0, .int .i64 0, .int .i64 0, .int .i64 0, .int .i64 0, .int .i64 0]
      refine hK.out _ _ ?_ (fun hHeld25 => ?_)
      · exact s14 (hc0.below hV hc0.lt) (hd0.below hV hd0.lt)
      clear hK K hHeld25
      generalize U11V1.alloc (.cells #[.int .i64 0, .int .i64 0, .int .i64 0, .int .i64 0, .int .i64 0, .int .i64 0, .int .i64 0, .int .i64 0, .int .i64 0] 65) = U10U11V1 at *
      generalize U11V1.heap.size = a10 at *
      try simp only [Act.put, List.setIfInBounds_toArray, List.set_cons_zero, List.set_cons_succ]
      refine wpAnyH_ready (rs := [3]) (by kernel_rfl) (by simp) ?_
      refine AllReadyH.cons (o := _) (by rw [List.getElem?_toArray]; rfl) (fun K hK => ?_) AllReadyH.nil
      go_simp
      refine (arrowOf_any k2 hk2 G hG _).mono ?_
      rintro e V2 ⟨rfl, hb1⟩
      replace hA10 := blk_keep hb1 hA10 rfl
      replace hA11 := blk_keep hb1 hA11 rfl
      replace hV := bel_keep hb1 hV rfl rfl rfl rfl hV.size
      clear hb1
      refine hK.out _ _ ?_ (fun hHeld26 => ?_)
      · exact s14 (hc0.below hV hc0.lt) (hd0.below hV hd0.lt)
      clear hK K hHeld26
      try simp only [Act.put, List.setIfInBounds_toArray, List.set_cons_zero, List.set_cons_succ]
      refine wpAnyH_ready (rs := [6]) (by kernel_rfl) (by simp) ?_
      refine AllReadyH.cons (o := _) (by rw [List.getElem?_toArray]; rfl) (fun K hK => ?_) AllReadyH.nil
      have hq := b9 hA10
      have q0 := hq.1
      have q1 := hq.2.1
      have q2 := hq.2.2.1
      have q3 := hq.2.2.2.1
      have q4 := hq.2.2.2.2.1
      have q5 := hq.2.2.2.2.2.1
      have q6 := hq.2.2.2.2.2.2.1
      have q7 := hq.2.2.2.2.2.2.2.1
      have q8 := hq.2.2.2.2.2.2.2.2.1
      have f0 := hq.2.2.2.2.2.2.2.2.2.1
      have f1 := hq.2.2.2.2.2.2.2.2.2.2.1
      have f2 := hq.2.2.2.2.2.2.2.2.2.2.2.1
      have f3 := hq.2.2.2.2.2.2.2.2.2.2.2.2.1
      have f4 := hq.2.2.2.2.2.2.2.2.2.2.2.2.2.1
      have f5 := hq.2.2.2.2.2.2.2.2.2.2.2.2.2.2.1
      have f6 := hq.2.2.2.2.2.2.2.2.2.2.2.2.2.2.2.1
      have f7 := hq.2.2.2.2.2.2.2.2.2.2.2.2.2.2.2.2.1
      have f8 := hq.2.2.2.2.2.2.2.2.2.2.2.2.2.2.2.2.2.1
      have hlt := hq.2.2.2.2.2.2.2.2.2.2.2.2.2.2.2.2.2.2
      clear hq
      go_simp
      replace hA11 := blk_far9g hA11 (show a11 ≠ a10 by omega) (.int .i64 (k : Int)) (.int .i64 (T 0)) (.int .i64 (T 1)) (.int .i64 (T 2)) (.int .i64 (T 3)) (.int .i64 (T 4)) (.int .i64 (T 5)) (.int .i64 (domL (mv T k) : Nat)) (.int .i64 (imN k T : Nat))
      replace hA10 := blk_put9g hA10 (.int .i64 (k : Int)) (.int .i64 (T 0)) (.int .i64 (T 1)) (.int .i64 (T 2)) (.int .i64 (T 3)) (.int .i64 (T 4)) (.int .i64 (T 5)) (.int .i64 (domL (mv T k) : Nat)) (.int .i64 (imN k T : Nat))
      replace hV := bel_put9g hV (show V0.heap.size ≤ a10 by omega) (.int .i64 (k : Int)) (.int .i64 (T 0)) (.int .i64 (T 1)) (.int .i64 (T 2)) (.int .i64 (T 3)) (.int .i64 (T 4)) (.int .i64 (T 5)) (.int .i64 (domL (mv T k) : Nat)) (.int .i64 (imN k T : Nat))
      clear q0 q1 q2 q3 q4 q5 q6 q7 q8 f0 f1 f2 f3 f4 f5 f6 f7 f8 hlt
      refine hK.out _ _ ?_ (fun hHeld27 => ?_)
      · exact s14 (hc0.below hV hc0.lt) (hd0.below hV hd0.lt)
      clear hK K hHeld27
      generalize (((((((((V2.setCell ⟨a10, 0, none⟩ (.int .i64 (k : Int))).setCell ⟨a10, 1, none⟩ (.int .i64 (T 0))).setCell ⟨a10, 2, none⟩ (.int .i64 (T 1))).setCell ⟨a10, 3, none⟩ (.int .i64 (T 2))).setCell ⟨a10, 4, none⟩ (.int .i64 (T 3))).setCell ⟨a10, 5, none⟩ (.int .i64 (T 4))).setCell ⟨a10, 6, none⟩ (.int .i64 (T 5))).setCell ⟨a10, 7, none⟩ (.int .i64 (domL (mv T k) : Nat))).setCell ⟨a10, 8, none⟩ (.int .i64 (imN k T : Nat))) = X6 at *
      try simp only [Act.put, List.setIfInBounds_toArray, List.set_cons_zero, List.set_cons_succ]
      refine wpAnyH_ready (rs := [7]) (by kernel_rfl) (by simp) ?_
      refine AllReadyH.cons (o := _) (by rw [List.getElem?_toArray]; rfl) (fun K hK => ?_) AllReadyH.nil
      have hq := b9 hA11
      have q0 := hq.1
      have q1 := hq.2.1
      have q2 := hq.2.2.1
      have q3 := hq.2.2.2.1
      have q4 := hq.2.2.2.2.1
      have q5 := hq.2.2.2.2.2.1
      have q6 := hq.2.2.2.2.2.2.1
      have q7 := hq.2.2.2.2.2.2.2.1
      have q8 := hq.2.2.2.2.2.2.2.2.1
      have f0 := hq.2.2.2.2.2.2.2.2.2.1
      have f1 := hq.2.2.2.2.2.2.2.2.2.2.1
      have f2 := hq.2.2.2.2.2.2.2.2.2.2.2.1
      have f3 := hq.2.2.2.2.2.2.2.2.2.2.2.2.1
      have f4 := hq.2.2.2.2.2.2.2.2.2.2.2.2.2.1
      have f5 := hq.2.2.2.2.2.2.2.2.2.2.2.2.2.2.1
      have f6 := hq.2.2.2.2.2.2.2.2.2.2.2.2.2.2.2.1
      have f7 := hq.2.2.2.2.2.2.2.2.2.2.2.2.2.2.2.2.1
      have f8 := hq.2.2.2.2.2.2.2.2.2.2.2.2.2.2.2.2.2.1
      have hlt := hq.2.2.2.2.2.2.2.2.2.2.2.2.2.2.2.2.2.2
      clear hq
      go_simp
      replace hA10 := blk_far9g hA10 (show a10 ≠ a11 by omega) (.int .i64 (k2 : Int)) (.int .i64 (G 0)) (.int .i64 (G 1)) (.int .i64 (G 2)) (.int .i64 (G 3)) (.int .i64 (G 4)) (.int .i64 (G 5)) (.int .i64 (domL (mv G k2) : Nat)) (.int .i64 (imN k2 G : Nat))
      replace hA11 := blk_put9g hA11 (.int .i64 (k2 : Int)) (.int .i64 (G 0)) (.int .i64 (G 1)) (.int .i64 (G 2)) (.int .i64 (G 3)) (.int .i64 (G 4)) (.int .i64 (G 5)) (.int .i64 (domL (mv G k2) : Nat)) (.int .i64 (imN k2 G : Nat))
      replace hV := bel_put9g hV (show V0.heap.size ≤ a11 by omega) (.int .i64 (k2 : Int)) (.int .i64 (G 0)) (.int .i64 (G 1)) (.int .i64 (G 2)) (.int .i64 (G 3)) (.int .i64 (G 4)) (.int .i64 (G 5)) (.int .i64 (domL (mv G k2) : Nat)) (.int .i64 (imN k2 G : Nat))
      clear q0 q1 q2 q3 q4 q5 q6 q7 q8 f0 f1 f2 f3 f4 f5 f6 f7 f8 hlt
      refine hK.out _ _ ?_ (fun hHeld28 => ?_)
      · exact s14 (hc0.below hV hc0.lt) (hd0.below hV hd0.lt)
      clear hK K hHeld28
      generalize (((((((((X6.setCell ⟨a11, 0, none⟩ (.int .i64 (k2 : Int))).setCell ⟨a11, 1, none⟩ (.int .i64 (G 0))).setCell ⟨a11, 2, none⟩ (.int .i64 (G 1))).setCell ⟨a11, 3, none⟩ (.int .i64 (G 2))).setCell ⟨a11, 4, none⟩ (.int .i64 (G 3))).setCell ⟨a11, 5, none⟩ (.int .i64 (G 4))).setCell ⟨a11, 6, none⟩ (.int .i64 (G 5))).setCell ⟨a11, 7, none⟩ (.int .i64 (domL (mv G k2) : Nat))).setCell ⟨a11, 8, none⟩ (.int .i64 (imN k2 G : Nat))) = X7 at *
      try simp only [Act.put, List.setIfInBounds_toArray, List.set_cons_zero, List.set_cons_succ]
      refine wpAnyH_done (by kernel_rfl) ?_ _
      exact HK.out _ a10 a11 hA10 hA11 hV
    refine AllReadyH.cons (o := _) (by rw [List.getElem?_toArray]; rfl) (fun K hK => ?_) ?_
    · go_simp
      have hsz10 := hV.size
      replace hV := hV.alloc hV.size (.cells #[.int .i64 0, .int .i64 0, .int .i64 0, .int .i64 0, .int .i64 0, .int .i64 0, .int .i64 0, .int .i64 0, .int .i64 0] 65)
      have hA10 := Blk.new D0 65 #[.int .i64 0, .int .i64 0, .int .i64 0, .int .i64 0, .int .i64 0, .int .i64 0, .int .i64 0, .int .i64 0, .int .i64 0]
      refine hK.out _ _ ?_ (fun hHeld29 => ?_)
      · exact s14 (hc0.below hV hc0.lt) (hd0.below hV hd0.lt)
      clear hK K hHeld29
      generalize D0.alloc (.cells #[.int .i64 0, .int .i64 0, .int .i64 0, .int .i64 0, .int .i64 0, .int .i64 0, .int .i64 0, .int .i64 0, .int .i64 0] 65) = U10D0 at *
      generalize D0.heap.size = a10 at *
      try simp only [Act.put, List.setIfInBounds_toArray, List.set_cons_zero, List.set_cons_succ]
      refine wpAnyH_ready (rs := [1, 5]) (by kernel_rfl) (by simp) ?_
      refine AllReadyH.cons (o := _) (by rw [List.getElem?_toArray]; rfl) (fun K hK => ?_) ?_
      · go_simp
        refine (arrowOf_any k hk T hT _).mono ?_
        rintro e V1 ⟨rfl, hb1⟩
        replace hA10 := blk_keep hb1 hA10 rfl
        replace hV := bel_keep hb1 hV rfl rfl rfl rfl hV.size
        clear hb1
        refine hK.out _ _ ?_ (fun hHeld30 => ?_)
        · exact s14 (hc0.below hV hc0.lt) (hd0.below hV hd0.lt)
        clear hK K hHeld30
        try simp only [Act.put, List.setIfInBounds_toArray, List.set_cons_zero, List.set_cons_succ]
        refine wpAnyH_ready (rs := [3, 5]) (by kernel_rfl) (by simp) ?_
        refine AllReadyH.cons (o := _) (by rw [List.getElem?_toArray]; rfl) (fun K hK => ?_) ?_
        · go_simp
          refine (arrowOf_any k2 hk2 G hG _).mono ?_
          rintro e V2 ⟨rfl, hb1⟩
          replace hA10 := blk_keep hb1 hA10 rfl
          replace hV := bel_keep hb1 hV rfl rfl rfl rfl hV.size
          clear hb1
          refine hK.out _ _ ?_ (fun hHeld31 => ?_)
          · exact s14 (hc0.below hV hc0.lt) (hd0.below hV hd0.lt)
          clear hK K hHeld31
          try simp only [Act.put, List.setIfInBounds_toArray, List.set_cons_zero, List.set_cons_succ]
          refine wpAnyH_ready (rs := [5]) (by kernel_rfl) (by simp) ?_
          refine AllReadyH.cons (o := _) (by rw [List.getElem?_toArray]; rfl) (fun K hK => ?_) AllReadyH.nil
          go_simp
          have hsz11 := hV.size
          have hne := hA10.lt
          replace hA10 := hA10.alloc (.cells #[.int .i64 0, .int .i64 0, .int .i64 0, .int .i64 0, .int .i64 0, .int .i64 0, .int .i64 0, .int .i64 0, .int .i64 0] 65)
          replace hV := hV.alloc hV.size (.cells #[.int .i64 0, .int .i64 0, .int .i64 0, .int .i64 0, .int .i64 0, .int .i64 0, .int .i64 0, .int .i64 0, .int .i64 0] 65)
          have hA11 := Blk.new V2 65 #[.int .i64 0, .int .i64 0, .int .i64 0, .int .i64 0, .int .i64 0, .int .i64 0, .int .i64 0, .int .i64 0, .int .i64 0]
          refine hK.out _ _ ?_ (fun hHeld32 => ?_)
          · exact s14 (hc0.below hV hc0.lt) (hd0.below hV hd0.lt)
          clear hK K hHeld32
          generalize V2.alloc (.cells #[.int .i64 0, .int .i64 0, .int .i64 0, .int .i64 0, .int .i64 0, .int .i64 0, .int .i64 0, .int .i64 0, .int .i64 0] 65) = U11V2 at *
          generalize V2.heap.size = a11 at *
          try simp only [Act.put, List.setIfInBounds_toArray, List.set_cons_zero, List.set_cons_succ]
          refine wpAnyH_ready (rs := [6]) (by kernel_rfl) (by simp) ?_
          refine AllReadyH.cons (o := _) (by rw [List.getElem?_toArray]; rfl) (fun K hK => ?_) AllReadyH.nil
          have hq := b9 hA10
          have q0 := hq.1
          have q1 := hq.2.1
          have q2 := hq.2.2.1
          have q3 := hq.2.2.2.1
          have q4 := hq.2.2.2.2.1
          have q5 := hq.2.2.2.2.2.1
          have q6 := hq.2.2.2.2.2.2.1
          have q7 := hq.2.2.2.2.2.2.2.1
          have q8 := hq.2.2.2.2.2.2.2.2.1
          have f0 := hq.2.2.2.2.2.2.2.2.2.1
          have f1 := hq.2.2.2.2.2.2.2.2.2.2.1
          have f2 := hq.2.2.2.2.2.2.2.2.2.2.2.1
          have f3 := hq.2.2.2.2.2.2.2.2.2.2.2.2.1
          have f4 := hq.2.2.2.2.2.2.2.2.2.2.2.2.2.1
          have f5 := hq.2.2.2.2.2.2.2.2.2.2.2.2.2.2.1
          have f6 := hq.2.2.2.2.2.2.2.2.2.2.2.2.2.2.2.1
          have f7 := hq.2.2.2.2.2.2.2.2.2.2.2.2.2.2.2.2.1
          have f8 := hq.2.2.2.2.2.2.2.2.2.2.2.2.2.2.2.2.2.1
          have hlt := hq.2.2.2.2.2.2.2.2.2.2.2.2.2.2.2.2.2.2
          clear hq
          go_simp
          replace hA11 := blk_far9g hA11 (show a11 ≠ a10 by omega) (.int .i64 (k : Int)) (.int .i64 (T 0)) (.int .i64 (T 1)) (.int .i64 (T 2)) (.int .i64 (T 3)) (.int .i64 (T 4)) (.int .i64 (T 5)) (.int .i64 (domL (mv T k) : Nat)) (.int .i64 (imN k T : Nat))
          replace hA10 := blk_put9g hA10 (.int .i64 (k : Int)) (.int .i64 (T 0)) (.int .i64 (T 1)) (.int .i64 (T 2)) (.int .i64 (T 3)) (.int .i64 (T 4)) (.int .i64 (T 5)) (.int .i64 (domL (mv T k) : Nat)) (.int .i64 (imN k T : Nat))
          replace hV := bel_put9g hV (show V0.heap.size ≤ a10 by omega) (.int .i64 (k : Int)) (.int .i64 (T 0)) (.int .i64 (T 1)) (.int .i64 (T 2)) (.int .i64 (T 3)) (.int .i64 (T 4)) (.int .i64 (T 5)) (.int .i64 (domL (mv T k) : Nat)) (.int .i64 (imN k T : Nat))
          clear q0 q1 q2 q3 q4 q5 q6 q7 q8 f0 f1 f2 f3 f4 f5 f6 f7 f8 hlt
          refine hK.out _ _ ?_ (fun hHeld33 => ?_)
          · exact s14 (hc0.below hV hc0.lt) (hd0.below hV hd0.lt)
          clear hK K hHeld33
          generalize (((((((((U11V2.setCell ⟨a10, 0, none⟩ (.int .i64 (k : Int))).setCell ⟨a10, 1, none⟩ (.int .i64 (T 0))).setCell ⟨a10, 2, none⟩ (.int .i64 (T 1))).setCell ⟨a10, 3, none⟩ (.int .i64 (T 2))).setCell ⟨a10, 4, none⟩ (.int .i64 (T 3))).setCell ⟨a10, 5, none⟩ (.int .i64 (T 4))).setCell ⟨a10, 6, none⟩ (.int .i64 (T 5))).setCell ⟨a10, 7, none⟩ (.int .i64 (domL (mv T k) : Nat))).setCell ⟨a10, 8, none⟩ (.int .i64 (imN k T : Nat))) = X6 at *
          try simp only [Act.put, List.setIfInBounds_toArray, List.set_cons_zero, List.set_cons_succ]
          refine wpAnyH_ready (rs := [7]) (by kernel_rfl) (by simp) ?_
          refine AllReadyH.cons (o := _) (by rw [List.getElem?_toArray]; rfl) (fun K hK => ?_) AllReadyH.nil
          have hq := b9 hA11
          have q0 := hq.1
          have q1 := hq.2.1
          have q2 := hq.2.2.1
          have q3 := hq.2.2.2.1
          have q4 := hq.2.2.2.2.1
          have q5 := hq.2.2.2.2.2.1
          have q6 := hq.2.2.2.2.2.2.1
          have q7 := hq.2.2.2.2.2.2.2.1
          have q8 := hq.2.2.2.2.2.2.2.2.1
          have f0 := hq.2.2.2.2.2.2.2.2.2.1
          have f1 := hq.2.2.2.2.2.2.2.2.2.2.1
          have f2 := hq.2.2.2.2.2.2.2.2.2.2.2.1
          have f3 := hq.2.2.2.2.2.2.2.2.2.2.2.2.1
          have f4 := hq.2.2.2.2.2.2.2.2.2.2.2.2.2.1
          have f5 := hq.2.2.2.2.2.2.2.2.2.2.2.2.2.2.1
          have f6 := hq.2.2.2.2.2.2.2.2.2.2.2.2.2.2.2.1
          have f7 := hq.2.2.2.2.2.2.2.2.2.2.2.2.2.2.2.2.1
          have f8 := hq.2.2.2.2.2.2.2.2.2.2.2.2.2.2.2.2.2.1
          have hlt := hq.2.2.2.2.2.2.2.2.2.2.2.2.2.2.2.2.2.2
          clear hq
          go_simp
          replace hA10 := blk_far9g hA10 (show a10 ≠ a11 by omega) (.int .i64 (k2 : Int)) (.int .i64 (G 0)) (.int .i64 (G 1)) (.int .i64 (G 2)) (.int .i64 (G 3)) (.int .i64 (G 4)) (.int .i64 (G 5)) (.int .i64 (domL (mv G k2) : Nat)) (.int .i64 (imN k2 G : Nat))
          replace hA11 := blk_put9g hA11 (.int .i64 (k2 : Int)) (.int .i64 (G 0)) (.int .i64 (G 1)) (.int .i64 (G 2)) (.int .i64 (G 3)) (.int .i64 (G 4)) (.int .i64 (G 5)) (.int .i64 (domL (mv G k2) : Nat)) (.int .i64 (imN k2 G : Nat))
          replace hV := bel_put9g hV (show V0.heap.size ≤ a11 by omega) (.int .i64 (k2 : Int)) (.int .i64 (G 0)) (.int .i64 (G 1)) (.int .i64 (G 2)) (.int .i64 (G 3)) (.int .i64 (G 4)) (.int .i64 (G 5)) (.int .i64 (domL (mv G k2) : Nat)) (.int .i64 (imN k2 G : Nat))
          clear q0 q1 q2 q3 q4 q5 q6 q7 q8 f0 f1 f2 f3 f4 f5 f6 f7 f8 hlt
          refine hK.out _ _ ?_ (fun hHeld34 => ?_)
          · exact s14 (hc0.below hV hc0.lt) (hd0.below hV hd0.lt)
          clear hK K hHeld34
          generalize (((((((((X6.setCell ⟨a11, 0, none⟩ (.int .i64 (k2 : Int))).setCell ⟨a11, 1, none⟩ (.int .i64 (G 0))).setCell ⟨a11, 2, none⟩ (.int .i64 (G 1))).setCell ⟨a11, 3, none⟩ (.int .i64 (G 2))).setCell ⟨a11, 4, none⟩ (.int .i64 (G 3))).setCell ⟨a11, 5, none⟩ (.int .i64 (G 4))).setCell ⟨a11, 6, none⟩ (.int .i64 (G 5))).setCell ⟨a11, 7, none⟩ (.int .i64 (domL (mv G k2) : Nat))).setCell ⟨a11, 8, none⟩ (.int .i64 (imN k2 G : Nat))) = X7 at *
          try simp only [Act.put, List.setIfInBounds_toArray, List.set_cons_zero, List.set_cons_succ]
          refine wpAnyH_done (by kernel_rfl) ?_ _
          exact HK.out _ a10 a11 hA10 hA11 hV
        refine AllReadyH.cons (o := _) (by rw [List.getElem?_toArray]; rfl) (fun K hK => ?_) AllReadyH.nil
        go_simp
        have hsz11 := hV.size
        have hne := hA10.lt
        replace hA10 := hA10.alloc (.cells #[.int .i64 0, .int .i64 0, .int .i64 0, .int .i64 0, .int .i64 0, .int .i64 0, .int .i64 0, .int .i64 0, .int .i64 0] 65)
        replace hV := hV.alloc hV.size (.cells #[.int .i64 0, .int .i64 0, .int .i64 0, .int .i64 0, .int .i64 0, .int .i64 0, .int .i64 0, .int .i64 0, .int .i64 0] 65)
        have hA11 := Blk.new V1 65 #[.int .i64 0, .int .i64 0, .int .i64 0, .int .i64 0, .int .i64 0, .int .i64 0, .int .i64 0, .int .i64 0, .int .i64 0]
        refine hK.out _ _ ?_ (fun hHeld35 => ?_)
        · exact s14 (hc0.below hV hc0.lt) (hd0.below hV hd0.lt)
        clear hK K hHeld35
        generalize V1.alloc (.cells #[.int .i64 0, .int .i64 0, .int .i64 0, .int .i64 0, .int .i64 0, .int .i64 0, .int .i64 0, .int .i64 0, .int .i64 0] 65) = U11V1 at *
        generalize V1.heap.size = a11 at *
        try simp only [Act.put, List.setIfInBounds_toArray, List.set_cons_zero, List.set_cons_succ]
        refine wpAnyH_ready (rs := [3]) (by kernel_rfl) (by simp) ?_
        refine AllReadyH.cons (o := _) (by rw [List.getElem?_toArray]; rfl) (fun K hK => ?_) AllReadyH.nil
        go_simp
        refine (arrowOf_any k2 hk2 G hG _).mono ?_
        rintro e V2 ⟨rfl, hb1⟩
        replace hA10 := blk_keep hb1 hA10 rfl
        replace hA11 := blk_keep hb1 hA11 rfl
        replace hV := bel_keep hb1 hV rfl rfl rfl rfl hV.size
        clear hb1
        refine hK.out _ _ ?_ (fun hHeld36 => ?_)
        · exact s14 (hc0.below hV hc0.lt) (hd0.below hV hd0.lt)
        clear hK K hHeld36
        try simp only [Act.put, List.setIfInBounds_toArray, List.set_cons_zero, List.set_cons_succ]
        refine wpAnyH_ready (rs := [6]) (by kernel_rfl) (by simp) ?_
        refine AllReadyH.cons (o := _) (by rw [List.getElem?_toArray]; rfl) (fun K hK => ?_) AllReadyH.nil
        have hq := b9 hA10
        have q0 := hq.1
        have q1 := hq.2.1
        have q2 := hq.2.2.1
        have q3 := hq.2.2.2.1
        have q4 := hq.2.2.2.2.1
        have q5 := hq.2.2.2.2.2.1
        have q6 := hq.2.2.2.2.2.2.1
        have q7 := hq.2.2.2.2.2.2.2.1
        have q8 := hq.2.2.2.2.2.2.2.2.1
        have f0 := hq.2.2.2.2.2.2.2.2.2.1
        have f1 := hq.2.2.2.2.2.2.2.2.2.2.1
        have f2 := hq.2.2.2.2.2.2.2.2.2.2.2.1
        have f3 := hq.2.2.2.2.2.2.2.2.2.2.2.2.1
        have f4 := hq.2.2.2.2.2.2.2.2.2.2.2.2.2.1
        have f5 := hq.2.2.2.2.2.2.2.2.2.2.2.2.2.2.1
        have f6 := hq.2.2.2.2.2.2.2.2.2.2.2.2.2.2.2.1
        have f7 := hq.2.2.2.2.2.2.2.2.2.2.2.2.2.2.2.2.1
        have f8 := hq.2.2.2.2.2.2.2.2.2.2.2.2.2.2.2.2.2.1
        have hlt := hq.2.2.2.2.2.2.2.2.2.2.2.2.2.2.2.2.2.2
        clear hq
        go_simp
        replace hA11 := blk_far9g hA11 (show a11 ≠ a10 by omega) (.int .i64 (k : Int)) (.int .i64 (T 0)) (.int .i64 (T 1)) (.int .i64 (T 2)) (.int .i64 (T 3)) (.int .i64 (T 4)) (.int .i64 (T 5)) (.int .i64 (domL (mv T k) : Nat)) (.int .i64 (imN k T : Nat))
        replace hA10 := blk_put9g hA10 (.int .i64 (k : Int)) (.int .i64 (T 0)) (.int .i64 (T 1)) (.int .i64 (T 2)) (.int .i64 (T 3)) (.int .i64 (T 4)) (.int .i64 (T 5)) (.int .i64 (domL (mv T k) : Nat)) (.int .i64 (imN k T : Nat))
        replace hV := bel_put9g hV (show V0.heap.size ≤ a10 by omega) (.int .i64 (k : Int)) (.int .i64 (T 0)) (.int .i64 (T 1)) (.int .i64 (T 2)) (.int .i64 (T 3)) (.int .i64 (T 4)) (.int .i64 (T 5)) (.int .i64 (domL (mv T k) : Nat)) (.int .i64 (imN k T : Nat))
        clear q0 q1 q2 q3 q4 q5 q6 q7 q8 f0 f1 f2 f3 f4 f5 f6 f7 f8 hlt
        refine hK.out _ _ ?_ (fun hHeld37 => ?_)
        · exact s14 (hc0.below hV hc0.lt) (hd0.below hV hd0.lt)
        clear hK K hHeld37
        generalize (((((((((V2.setCell ⟨a10, 0, none⟩ (.int .i64 (k : Int))).setCell ⟨a10, 1, none⟩ (.int .i64 (T 0))).setCell ⟨a10, 2, none⟩ (.int .i64 (T 1))).setCell ⟨a10, 3, none⟩ (.int .i64 (T 2))).setCell ⟨a10, 4, none⟩ (.int .i64 (T 3))).setCell ⟨a10, 5, none⟩ (.int .i64 (T 4))).setCell ⟨a10, 6, none⟩ (.int .i64 (T 5))).setCell ⟨a10, 7, none⟩ (.int .i64 (domL (mv T k) : Nat))).setCell ⟨a10, 8, none⟩ (.int .i64 (imN k T : Nat))) = X6 at *
        try simp only [Act.put, List.setIfInBounds_toArray, List.set_cons_zero, List.set_cons_succ]
        refine wpAnyH_ready (rs := [7]) (by kernel_rfl) (by simp) ?_
        refine AllReadyH.cons (o := _) (by rw [List.getElem?_toArray]; rfl) (fun K hK => ?_) AllReadyH.nil
        have hq := b9 hA11
        have q0 := hq.1
        have q1 := hq.2.1
        have q2 := hq.2.2.1
        have q3 := hq.2.2.2.1
        have q4 := hq.2.2.2.2.1
        have q5 := hq.2.2.2.2.2.1
        have q6 := hq.2.2.2.2.2.2.1
        have q7 := hq.2.2.2.2.2.2.2.1
        have q8 := hq.2.2.2.2.2.2.2.2.1
        have f0 := hq.2.2.2.2.2.2.2.2.2.1
        have f1 := hq.2.2.2.2.2.2.2.2.2.2.1
        have f2 := hq.2.2.2.2.2.2.2.2.2.2.2.1
        have f3 := hq.2.2.2.2.2.2.2.2.2.2.2.2.1
        have f4 := hq.2.2.2.2.2.2.2.2.2.2.2.2.2.1
        have f5 := hq.2.2.2.2.2.2.2.2.2.2.2.2.2.2.1
        have f6 := hq.2.2.2.2.2.2.2.2.2.2.2.2.2.2.2.1
        have f7 := hq.2.2.2.2.2.2.2.2.2.2.2.2.2.2.2.2.1
        have f8 := hq.2.2.2.2.2.2.2.2.2.2.2.2.2.2.2.2.2.1
        have hlt := hq.2.2.2.2.2.2.2.2.2.2.2.2.2.2.2.2.2.2
        clear hq
        go_simp
        replace hA10 := blk_far9g hA10 (show a10 ≠ a11 by omega) (.int .i64 (k2 : Int)) (.int .i64 (G 0)) (.int .i64 (G 1)) (.int .i64 (G 2)) (.int .i64 (G 3)) (.int .i64 (G 4)) (.int .i64 (G 5)) (.int .i64 (domL (mv G k2) : Nat)) (.int .i64 (imN k2 G : Nat))
        replace hA11 := blk_put9g hA11 (.int .i64 (k2 : Int)) (.int .i64 (G 0)) (.int .i64 (G 1)) (.int .i64 (G 2)) (.int .i64 (G 3)) (.int .i64 (G 4)) (.int .i64 (G 5)) (.int .i64 (domL (mv G k2) : Nat)) (.int .i64 (imN k2 G : Nat))
        replace hV := bel_put9g hV (show V0.heap.size ≤ a11 by omega) (.int .i64 (k2 : Int)) (.int .i64 (G 0)) (.int .i64 (G 1)) (.int .i64 (G 2)) (.int .i64 (G 3)) (.int .i64 (G 4)) (.int .i64 (G 5)) (.int .i64 (domL (mv G k2) : Nat)) (.int .i64 (imN k2 G : Nat))
        clear q0 q1 q2 q3 q4 q5 q6 q7 q8 f0 f1 f2 f3 f4 f5 f6 f7 f8 hlt
        refine hK.out _ _ ?_ (fun hHeld38 => ?_)
        · exact s14 (hc0.below hV hc0.lt) (hd0.below hV hd0.lt)
        clear hK K hHeld38
        generalize (((((((((X6.setCell ⟨a11, 0, none⟩ (.int .i64 (k2 : Int))).setCell ⟨a11, 1, none⟩ (.int .i64 (G 0))).setCell ⟨a11, 2, none⟩ (.int .i64 (G 1))).setCell ⟨a11, 3, none⟩ (.int .i64 (G 2))).setCell ⟨a11, 4, none⟩ (.int .i64 (G 3))).setCell ⟨a11, 5, none⟩ (.int .i64 (G 4))).setCell ⟨a11, 6, none⟩ (.int .i64 (G 5))).setCell ⟨a11, 7, none⟩ (.int .i64 (domL (mv G k2) : Nat))).setCell ⟨a11, 8, none⟩ (.int .i64 (imN k2 G : Nat))) = X7 at *
        try simp only [Act.put, List.setIfInBounds_toArray, List.set_cons_zero, List.set_cons_succ]
        refine wpAnyH_done (by kernel_rfl) ?_ _
        exact HK.out _ a10 a11 hA10 hA11 hV
      refine AllReadyH.cons (o := _) (by rw [List.getElem?_toArray]; rfl) (fun K hK => ?_) AllReadyH.nil
      go_simp
      have hsz11 := hV.size
      have hne := hA10.lt
      replace hA10 := hA10.alloc (.cells #[.int .i64 0, .int .i64 0, .int .i64 0, .int .i64 0, .int .i64 0, .int .i64 0, .int .i64 0, .int .i64 0, .int .i64 0] 65)
      replace hV := hV.alloc hV.size (.cells #[.int .i64 0, .int .i64 0, .int .i64 0, .int .i64 0, .int .i64 0, .int .i64 0, .int .i64 0, .int .i64 0, .int .i64 0] 65)
      have hA11 := Blk.new U10D0 65 #[.int .i64 0, .int .i64 0, .int .i64 0, .int .i64 0, .int .i64 0, .int .i64 0, .int .i64 0, .int .i64 0, .int .i64 0]
      refine hK.out _ _ ?_ (fun hHeld39 => ?_)
      · exact s14 (hc0.below hV hc0.lt) (hd0.below hV hd0.lt)
      clear hK K hHeld39
      generalize U10D0.alloc (.cells #[.int .i64 0, .int .i64 0, .int .i64 0, .int .i64 0, .int .i64 0, .int .i64 0, .int .i64 0, .int .i64 0, .int .i64 0] 65) = U11U10D0 at *
      generalize U10D0.heap.size = a11 at *
      try simp only [Act.put, List.setIfInBounds_toArray, List.set_cons_zero, List.set_cons_succ]
      refine wpAnyH_ready (rs := [1]) (by kernel_rfl) (by simp) ?_
      refine AllReadyH.cons (o := _) (by rw [List.getElem?_toArray]; rfl) (fun K hK => ?_) AllReadyH.nil
      go_simp
      refine (arrowOf_any k hk T hT _).mono ?_
      rintro e V1 ⟨rfl, hb1⟩
      replace hA10 := blk_keep hb1 hA10 rfl
      replace hA11 := blk_keep hb1 hA11 rfl
      replace hV := bel_keep hb1 hV rfl rfl rfl rfl hV.size
      clear hb1
      refine hK.out _ _ ?_ (fun hHeld40 => ?_)
      · exact s14 (hc0.below hV hc0.lt) (hd0.below hV hd0.lt)
      clear hK K hHeld40
      try simp only [Act.put, List.setIfInBounds_toArray, List.set_cons_zero, List.set_cons_succ]
      refine wpAnyH_ready (rs := [3]) (by kernel_rfl) (by simp) ?_
      refine AllReadyH.cons (o := _) (by rw [List.getElem?_toArray]; rfl) (fun K hK => ?_) AllReadyH.nil
      go_simp
      refine (arrowOf_any k2 hk2 G hG _).mono ?_
      rintro e V2 ⟨rfl, hb1⟩
      replace hA10 := blk_keep hb1 hA10 rfl
      replace hA11 := blk_keep hb1 hA11 rfl
      replace hV := bel_keep hb1 hV rfl rfl rfl rfl hV.size
      clear hb1
      refine hK.out _ _ ?_ (fun hHeld41 => ?_)
      · exact s14 (hc0.below hV hc0.lt) (hd0.below hV hd0.lt)
      clear hK K hHeld41
      try simp only [Act.put, List.setIfInBounds_toArray, List.set_cons_zero, List.set_cons_succ]
      refine wpAnyH_ready (rs := [6]) (by kernel_rfl) (by simp) ?_
      refine AllReadyH.cons (o := _) (by rw [List.getElem?_toArray]; rfl) (fun K hK => ?_) AllReadyH.nil
      have hq := b9 hA10
      have q0 := hq.1
      have q1 := hq.2.1
      have q2 := hq.2.2.1
      have q3 := hq.2.2.2.1
      have q4 := hq.2.2.2.2.1
      have q5 := hq.2.2.2.2.2.1
      have q6 := hq.2.2.2.2.2.2.1
      have q7 := hq.2.2.2.2.2.2.2.1
      have q8 := hq.2.2.2.2.2.2.2.2.1
      have f0 := hq.2.2.2.2.2.2.2.2.2.1
      have f1 := hq.2.2.2.2.2.2.2.2.2.2.1
      have f2 := hq.2.2.2.2.2.2.2.2.2.2.2.1
      have f3 := hq.2.2.2.2.2.2.2.2.2.2.2.2.1
      have f4 := hq.2.2.2.2.2.2.2.2.2.2.2.2.2.1
      have f5 := hq.2.2.2.2.2.2.2.2.2.2.2.2.2.2.1
      have f6 := hq.2.2.2.2.2.2.2.2.2.2.2.2.2.2.2.1
      have f7 := hq.2.2.2.2.2.2.2.2.2.2.2.2.2.2.2.2.1
      have f8 := hq.2.2.2.2.2.2.2.2.2.2.2.2.2.2.2.2.2.1
      have hlt := hq.2.2.2.2.2.2.2.2.2.2.2.2.2.2.2.2.2.2
      clear hq
      go_simp
      replace hA11 := blk_far9g hA11 (show a11 ≠ a10 by omega) (.int .i64 (k : Int)) (.int .i64 (T 0)) (.int .i64 (T 1)) (.int .i64 (T 2)) (.int .i64 (T 3)) (.int .i64 (T 4)) (.int .i64 (T 5)) (.int .i64 (domL (mv T k) : Nat)) (.int .i64 (imN k T : Nat))
      replace hA10 := blk_put9g hA10 (.int .i64 (k : Int)) (.int .i64 (T 0)) (.int .i64 (T 1)) (.int .i64 (T 2)) (.int .i64 (T 3)) (.int .i64 (T 4)) (.int .i64 (T 5)) (.int .i64 (domL (mv T k) : Nat)) (.int .i64 (imN k T : Nat))
      replace hV := bel_put9g hV (show V0.heap.size ≤ a10 by omega) (.int .i64 (k : Int)) (.int .i64 (T 0)) (.int .i64 (T 1)) (.int .i64 (T 2)) (.int .i64 (T 3)) (.int .i64 (T 4)) (.int .i64 (T 5)) (.int .i64 (domL (mv T k) : Nat)) (.int .i64 (imN k T : Nat))
      clear q0 q1 q2 q3 q4 q5 q6 q7 q8 f0 f1 f2 f3 f4 f5 f6 f7 f8 hlt
      refine hK.out _ _ ?_ (fun hHeld42 => ?_)
      · exact s14 (hc0.below hV hc0.lt) (hd0.below hV hd0.lt)
      clear hK K hHeld42
      generalize (((((((((V2.setCell ⟨a10, 0, none⟩ (.int .i64 (k : Int))).setCell ⟨a10, 1, none⟩ (.int .i64 (T 0))).setCell ⟨a10, 2, none⟩ (.int .i64 (T 1))).setCell ⟨a10, 3, none⟩ (.int .i64 (T 2))).setCell ⟨a10, 4, none⟩ (.int .i64 (T 3))).setCell ⟨a10, 5, none⟩ (.int .i64 (T 4))).setCell ⟨a10, 6, none⟩ (.int .i64 (T 5))).setCell ⟨a10, 7, none⟩ (.int .i64 (domL (mv T k) : Nat))).setCell ⟨a10, 8, none⟩ (.int .i64 (imN k T : Nat))) = X6 at *
      try simp only [Act.put, List.setIfInBounds_toArray, List.set_cons_zero, List.set_cons_succ]
      refine wpAnyH_ready (rs := [7]) (by kernel_rfl) (by simp) ?_
      refine AllReadyH.cons (o := _) (by rw [List.getElem?_toArray]; rfl) (fun K hK => ?_) AllReadyH.nil
      have hq := b9 hA11
      have q0 := hq.1
      have q1 := hq.2.1
      have q2 := hq.2.2.1
      have q3 := hq.2.2.2.1
      have q4 := hq.2.2.2.2.1
      have q5 := hq.2.2.2.2.2.1
      have q6 := hq.2.2.2.2.2.2.1
      have q7 := hq.2.2.2.2.2.2.2.1
      have q8 := hq.2.2.2.2.2.2.2.2.1
      have f0 := hq.2.2.2.2.2.2.2.2.2.1
      have f1 := hq.2.2.2.2.2.2.2.2.2.2.1
      have f2 := hq.2.2.2.2.2.2.2.2.2.2.2.1
      have f3 := hq.2.2.2.2.2.2.2.2.2.2.2.2.1
      have f4 := hq.2.2.2.2.2.2.2.2.2.2.2.2.2.1
      have f5 := hq.2.2.2.2.2.2.2.2.2.2.2.2.2.2.1
      have f6 := hq.2.2.2.2.2.2.2.2.2.2.2.2.2.2.2.1
      have f7 := hq.2.2.2.2.2.2.2.2.2.2.2.2.2.2.2.2.1
      have f8 := hq.2.2.2.2.2.2.2.2.2.2.2.2.2.2.2.2.2.1
      have hlt := hq.2.2.2.2.2.2.2.2.2.2.2.2.2.2.2.2.2.2
      clear hq
      go_simp
      replace hA10 := blk_far9g hA10 (show a10 ≠ a11 by omega) (.int .i64 (k2 : Int)) (.int .i64 (G 0)) (.int .i64 (G 1)) (.int .i64 (G 2)) (.int .i64 (G 3)) (.int .i64 (G 4)) (.int .i64 (G 5)) (.int .i64 (domL (mv G k2) : Nat)) (.int .i64 (imN k2 G : Nat))
      replace hA11 := blk_put9g hA11 (.int .i64 (k2 : Int)) (.int .i64 (G 0)) (.int .i64 (G 1)) (.int .i64 (G 2)) (.int .i64 (G 3)) (.int .i64 (G 4)) (.int .i64 (G 5)) (.int .i64 (domL (mv G k2) : Nat)) (.int .i64 (imN k2 G : Nat))
      replace hV := bel_put9g hV (show V0.heap.size ≤ a11 by omega) (.int .i64 (k2 : Int)) (.int .i64 (G 0)) (.int .i64 (G 1)) (.int .i64 (G 2)) (.int .i64 (G 3)) (.int .i64 (G 4)) (.int .i64 (G 5)) (.int .i64 (domL (mv G k2) : Nat)) (.int .i64 (imN k2 G : Nat))
      clear q0 q1 q2 q3 q4 q5 q6 q7 q8 f0 f1 f2 f3 f4 f5 f6 f7 f8 hlt
      refine hK.out _ _ ?_ (fun hHeld43 => ?_)
      · exact s14 (hc0.below hV hc0.lt) (hd0.below hV hd0.lt)
      clear hK K hHeld43
      generalize (((((((((X6.setCell ⟨a11, 0, none⟩ (.int .i64 (k2 : Int))).setCell ⟨a11, 1, none⟩ (.int .i64 (G 0))).setCell ⟨a11, 2, none⟩ (.int .i64 (G 1))).setCell ⟨a11, 3, none⟩ (.int .i64 (G 2))).setCell ⟨a11, 4, none⟩ (.int .i64 (G 3))).setCell ⟨a11, 5, none⟩ (.int .i64 (G 4))).setCell ⟨a11, 6, none⟩ (.int .i64 (G 5))).setCell ⟨a11, 7, none⟩ (.int .i64 (domL (mv G k2) : Nat))).setCell ⟨a11, 8, none⟩ (.int .i64 (imN k2 G : Nat))) = X7 at *
      try simp only [Act.put, List.setIfInBounds_toArray, List.set_cons_zero, List.set_cons_succ]
      refine wpAnyH_done (by kernel_rfl) ?_ _
      exact HK.out _ a10 a11 hA10 hA11 hV
    refine AllReadyH.cons (o := _) (by rw [List.getElem?_toArray]; rfl) (fun K hK => ?_) AllReadyH.nil
    go_simp
    have hsz11 := hV.size
    replace hV := hV.alloc hV.size (.cells #[.int .i64 0, .int .i64 0, .int .i64 0, .int .i64 0, .int .i64 0, .int .i64 0, .int .i64 0, .int .i64 0, .int .i64 0] 65)
    have hA11 := Blk.new D0 65 #[.int .i64 0, .int .i64 0, .int .i64 0, .int .i64 0, .int .i64 0, .int .i64 0, .int .i64 0, .int .i64 0, .int .i64 0]
    refine hK.out _ _ ?_ (fun hHeld44 => ?_)
    · exact s14 (hc0.below hV hc0.lt) (hd0.below hV hd0.lt)
    clear hK K hHeld44
    generalize D0.alloc (.cells #[.int .i64 0, .int .i64 0, .int .i64 0, .int .i64 0, .int .i64 0, .int .i64 0, .int .i64 0, .int .i64 0, .int .i64 0] 65) = U11D0 at *
    generalize D0.heap.size = a11 at *
    try simp only [Act.put, List.setIfInBounds_toArray, List.set_cons_zero, List.set_cons_succ]
    refine wpAnyH_ready (rs := [1, 4]) (by kernel_rfl) (by simp) ?_
    refine AllReadyH.cons (o := _) (by rw [List.getElem?_toArray]; rfl) (fun K hK => ?_) ?_
    · go_simp
      refine (arrowOf_any k hk T hT _).mono ?_
      rintro e V1 ⟨rfl, hb1⟩
      replace hA11 := blk_keep hb1 hA11 rfl
      replace hV := bel_keep hb1 hV rfl rfl rfl rfl hV.size
      clear hb1
      refine hK.out _ _ ?_ (fun hHeld45 => ?_)
      · exact s14 (hc0.below hV hc0.lt) (hd0.below hV hd0.lt)
      clear hK K hHeld45
      try simp only [Act.put, List.setIfInBounds_toArray, List.set_cons_zero, List.set_cons_succ]
      refine wpAnyH_ready (rs := [3, 4]) (by kernel_rfl) (by simp) ?_
      refine AllReadyH.cons (o := _) (by rw [List.getElem?_toArray]; rfl) (fun K hK => ?_) ?_
      · go_simp
        refine (arrowOf_any k2 hk2 G hG _).mono ?_
        rintro e V2 ⟨rfl, hb1⟩
        replace hA11 := blk_keep hb1 hA11 rfl
        replace hV := bel_keep hb1 hV rfl rfl rfl rfl hV.size
        clear hb1
        refine hK.out _ _ ?_ (fun hHeld46 => ?_)
        · exact s14 (hc0.below hV hc0.lt) (hd0.below hV hd0.lt)
        clear hK K hHeld46
        try simp only [Act.put, List.setIfInBounds_toArray, List.set_cons_zero, List.set_cons_succ]
        refine wpAnyH_ready (rs := [4]) (by kernel_rfl) (by simp) ?_
        refine AllReadyH.cons (o := _) (by rw [List.getElem?_toArray]; rfl) (fun K hK => ?_) AllReadyH.nil
        go_simp
        have hsz10 := hV.size
        have hne := hA11.lt
        replace hA11 := hA11.alloc (.cells #[.int .i64 0, .int .i64 0, .int .i64 0, .int .i64 0, .int .i64 0, .int .i64 0, .int .i64 0, .int .i64 0, .int .i64 0] 65)
        replace hV := hV.alloc hV.size (.cells #[.int .i64 0, .int .i64 0, .int .i64 0, .int .i64 0, .int .i64 0, .int .i64 0, .int .i64 0, .int .i64 0, .int .i64 0] 65)
        have hA10 := Blk.new V2 65 #[.int .i64 0, .int .i64 0, .int .i64 0, .int .i64 0, .int .i64 0, .int .i64 0, .int .i64 0, .int .i64 0, .int .i64 0]
        refine hK.out _ _ ?_ (fun hHeld47 => ?_)
        · exact s14 (hc0.below hV hc0.lt) (hd0.below hV hd0.lt)
        clear hK K hHeld47
        generalize V2.alloc (.cells #[.int .i64 0, .int .i64 0, .int .i64 0, .int .i64 0, .int .i64 0, .int .i64 0, .int .i64 0, .int .i64 0, .int .i64 0] 65) = U10V2 at *
        generalize V2.heap.size = a10 at *
        try simp only [Act.put, List.setIfInBounds_toArray, List.set_cons_zero, List.set_cons_succ]
        refine wpAnyH_ready (rs := [6]) (by kernel_rfl) (by simp) ?_
        refine AllReadyH.cons (o := _) (by rw [List.getElem?_toArray]; rfl) (fun K hK => ?_) AllReadyH.nil
        have hq := b9 hA10
        have q0 := hq.1
        have q1 := hq.2.1
        have q2 := hq.2.2.1
        have q3 := hq.2.2.2.1
        have q4 := hq.2.2.2.2.1
        have q5 := hq.2.2.2.2.2.1
        have q6 := hq.2.2.2.2.2.2.1
        have q7 := hq.2.2.2.2.2.2.2.1
        have q8 := hq.2.2.2.2.2.2.2.2.1
        have f0 := hq.2.2.2.2.2.2.2.2.2.1
        have f1 := hq.2.2.2.2.2.2.2.2.2.2.1
        have f2 := hq.2.2.2.2.2.2.2.2.2.2.2.1
        have f3 := hq.2.2.2.2.2.2.2.2.2.2.2.2.1
        have f4 := hq.2.2.2.2.2.2.2.2.2.2.2.2.2.1
        have f5 := hq.2.2.2.2.2.2.2.2.2.2.2.2.2.2.1
        have f6 := hq.2.2.2.2.2.2.2.2.2.2.2.2.2.2.2.1
        have f7 := hq.2.2.2.2.2.2.2.2.2.2.2.2.2.2.2.2.1
        have f8 := hq.2.2.2.2.2.2.2.2.2.2.2.2.2.2.2.2.2.1
        have hlt := hq.2.2.2.2.2.2.2.2.2.2.2.2.2.2.2.2.2.2
        clear hq
        go_simp
        replace hA11 := blk_far9g hA11 (show a11 ≠ a10 by omega) (.int .i64 (k : Int)) (.int .i64 (T 0)) (.int .i64 (T 1)) (.int .i64 (T 2)) (.int .i64 (T 3)) (.int .i64 (T 4)) (.int .i64 (T 5)) (.int .i64 (domL (mv T k) : Nat)) (.int .i64 (imN k T : Nat))
        replace hA10 := blk_put9g hA10 (.int .i64 (k : Int)) (.int .i64 (T 0)) (.int .i64 (T 1)) (.int .i64 (T 2)) (.int .i64 (T 3)) (.int .i64 (T 4)) (.int .i64 (T 5)) (.int .i64 (domL (mv T k) : Nat)) (.int .i64 (imN k T : Nat))
        replace hV := bel_put9g hV (show V0.heap.size ≤ a10 by omega) (.int .i64 (k : Int)) (.int .i64 (T 0)) (.int .i64 (T 1)) (.int .i64 (T 2)) (.int .i64 (T 3)) (.int .i64 (T 4)) (.int .i64 (T 5)) (.int .i64 (domL (mv T k) : Nat)) (.int .i64 (imN k T : Nat))
        clear q0 q1 q2 q3 q4 q5 q6 q7 q8 f0 f1 f2 f3 f4 f5 f6 f7 f8 hlt
        refine hK.out _ _ ?_ (fun hHeld48 => ?_)
        · exact s14 (hc0.below hV hc0.lt) (hd0.below hV hd0.lt)
        clear hK K hHeld48
        generalize (((((((((U10V2.setCell ⟨a10, 0, none⟩ (.int .i64 (k : Int))).setCell ⟨a10, 1, none⟩ (.int .i64 (T 0))).setCell ⟨a10, 2, none⟩ (.int .i64 (T 1))).setCell ⟨a10, 3, none⟩ (.int .i64 (T 2))).setCell ⟨a10, 4, none⟩ (.int .i64 (T 3))).setCell ⟨a10, 5, none⟩ (.int .i64 (T 4))).setCell ⟨a10, 6, none⟩ (.int .i64 (T 5))).setCell ⟨a10, 7, none⟩ (.int .i64 (domL (mv T k) : Nat))).setCell ⟨a10, 8, none⟩ (.int .i64 (imN k T : Nat))) = X6 at *
        try simp only [Act.put, List.setIfInBounds_toArray, List.set_cons_zero, List.set_cons_succ]
        refine wpAnyH_ready (rs := [7]) (by kernel_rfl) (by simp) ?_
        refine AllReadyH.cons (o := _) (by rw [List.getElem?_toArray]; rfl) (fun K hK => ?_) AllReadyH.nil
        have hq := b9 hA11
        have q0 := hq.1
        have q1 := hq.2.1
        have q2 := hq.2.2.1
        have q3 := hq.2.2.2.1
        have q4 := hq.2.2.2.2.1
        have q5 := hq.2.2.2.2.2.1
        have q6 := hq.2.2.2.2.2.2.1
        have q7 := hq.2.2.2.2.2.2.2.1
        have q8 := hq.2.2.2.2.2.2.2.2.1
        have f0 := hq.2.2.2.2.2.2.2.2.2.1
        have f1 := hq.2.2.2.2.2.2.2.2.2.2.1
        have f2 := hq.2.2.2.2.2.2.2.2.2.2.2.1
        have f3 := hq.2.2.2.2.2.2.2.2.2.2.2.2.1
        have f4 := hq.2.2.2.2.2.2.2.2.2.2.2.2.2.1
        have f5 := hq.2.2.2.2.2.2.2.2.2.2.2.2.2.2.1
        have f6 := hq.2.2.2.2.2.2.2.2.2.2.2.2.2.2.2.1
        have f7 := hq.2.2.2.2.2.2.2.2.2.2.2.2.2.2.2.2.1
        have f8 := hq.2.2.2.2.2.2.2.2.2.2.2.2.2.2.2.2.2.1
        have hlt := hq.2.2.2.2.2.2.2.2.2.2.2.2.2.2.2.2.2.2
        clear hq
        go_simp
        replace hA10 := blk_far9g hA10 (show a10 ≠ a11 by omega) (.int .i64 (k2 : Int)) (.int .i64 (G 0)) (.int .i64 (G 1)) (.int .i64 (G 2)) (.int .i64 (G 3)) (.int .i64 (G 4)) (.int .i64 (G 5)) (.int .i64 (domL (mv G k2) : Nat)) (.int .i64 (imN k2 G : Nat))
        replace hA11 := blk_put9g hA11 (.int .i64 (k2 : Int)) (.int .i64 (G 0)) (.int .i64 (G 1)) (.int .i64 (G 2)) (.int .i64 (G 3)) (.int .i64 (G 4)) (.int .i64 (G 5)) (.int .i64 (domL (mv G k2) : Nat)) (.int .i64 (imN k2 G : Nat))
        replace hV := bel_put9g hV (show V0.heap.size ≤ a11 by omega) (.int .i64 (k2 : Int)) (.int .i64 (G 0)) (.int .i64 (G 1)) (.int .i64 (G 2)) (.int .i64 (G 3)) (.int .i64 (G 4)) (.int .i64 (G 5)) (.int .i64 (domL (mv G k2) : Nat)) (.int .i64 (imN k2 G : Nat))
        clear q0 q1 q2 q3 q4 q5 q6 q7 q8 f0 f1 f2 f3 f4 f5 f6 f7 f8 hlt
        refine hK.out _ _ ?_ (fun hHeld49 => ?_)
        · exact s14 (hc0.below hV hc0.lt) (hd0.below hV hd0.lt)
        clear hK K hHeld49
        generalize (((((((((X6.setCell ⟨a11, 0, none⟩ (.int .i64 (k2 : Int))).setCell ⟨a11, 1, none⟩ (.int .i64 (G 0))).setCell ⟨a11, 2, none⟩ (.int .i64 (G 1))).setCell ⟨a11, 3, none⟩ (.int .i64 (G 2))).setCell ⟨a11, 4, none⟩ (.int .i64 (G 3))).setCell ⟨a11, 5, none⟩ (.int .i64 (G 4))).setCell ⟨a11, 6, none⟩ (.int .i64 (G 5))).setCell ⟨a11, 7, none⟩ (.int .i64 (domL (mv G k2) : Nat))).setCell ⟨a11, 8, none⟩ (.int .i64 (imN k2 G : Nat))) = X7 at *
        try simp only [Act.put, List.setIfInBounds_toArray, List.set_cons_zero, List.set_cons_succ]
        refine wpAnyH_done (by kernel_rfl) ?_ _
        exact HK.out _ a10 a11 hA10 hA11 hV
      refine AllReadyH.cons (o := _) (by rw [List.getElem?_toArray]; rfl) (fun K hK => ?_) AllReadyH.nil
      go_simp
      have hsz10 := hV.size
      have hne := hA11.lt
      replace hA11 := hA11.alloc (.cells #[.int .i64 0, .int .i64 0, .int .i64 0, .int .i64 0, .int .i64 0, .int .i64 0, .int .i64 0, .int .i64 0, .int .i64 0] 65)
      replace hV := hV.alloc hV.size (.cells #[.int .i64 0, .int .i64 0, .int .i64 0, .int .i64 0, .int .i64 0, .int .i64 0, .int .i64 0, .int .i64 0, .int .i64 0] 65)
      have hA10 := Blk.new V1 65 #[.int .i64 0, .int .i64 0, .int .i64 0, .int .i64 0, .int .i64 0, .int .i64 0, .int .i64 0, .int .i64 0, .int .i64 0]
      refine hK.out _ _ ?_ (fun hHeld50 => ?_)
      · exact s14 (hc0.below hV hc0.lt) (hd0.below hV hd0.lt)
      clear hK K hHeld50
      generalize V1.alloc (.cells #[.int .i64 0, .int .i64 0, .int .i64 0, .int .i64 0, .int .i64 0, .int .i64 0, .int .i64 0, .int .i64 0, .int .i64 0] 65) = U10V1 at *
      generalize V1.heap.size = a10 at *
      try simp only [Act.put, List.setIfInBounds_toArray, List.set_cons_zero, List.set_cons_succ]
      refine wpAnyH_ready (rs := [3]) (by kernel_rfl) (by simp) ?_
      refine AllReadyH.cons (o := _) (by rw [List.getElem?_toArray]; rfl) (fun K hK => ?_) AllReadyH.nil
      go_simp
      refine (arrowOf_any k2 hk2 G hG _).mono ?_
      rintro e V2 ⟨rfl, hb1⟩
      replace hA10 := blk_keep hb1 hA10 rfl
      replace hA11 := blk_keep hb1 hA11 rfl
      replace hV := bel_keep hb1 hV rfl rfl rfl rfl hV.size
      clear hb1
      refine hK.out _ _ ?_ (fun hHeld51 => ?_)
      · exact s14 (hc0.below hV hc0.lt) (hd0.below hV hd0.lt)
      clear hK K hHeld51
      try simp only [Act.put, List.setIfInBounds_toArray, List.set_cons_zero, List.set_cons_succ]
      refine wpAnyH_ready (rs := [6]) (by kernel_rfl) (by simp) ?_
      refine AllReadyH.cons (o := _) (by rw [List.getElem?_toArray]; rfl) (fun K hK => ?_) AllReadyH.nil
      have hq := b9 hA10
      have q0 := hq.1
      have q1 := hq.2.1
      have q2 := hq.2.2.1
      have q3 := hq.2.2.2.1
      have q4 := hq.2.2.2.2.1
      have q5 := hq.2.2.2.2.2.1
      have q6 := hq.2.2.2.2.2.2.1
      have q7 := hq.2.2.2.2.2.2.2.1
      have q8 := hq.2.2.2.2.2.2.2.2.1
      have f0 := hq.2.2.2.2.2.2.2.2.2.1
      have f1 := hq.2.2.2.2.2.2.2.2.2.2.1
      have f2 := hq.2.2.2.2.2.2.2.2.2.2.2.1
      have f3 := hq.2.2.2.2.2.2.2.2.2.2.2.2.1
      have f4 := hq.2.2.2.2.2.2.2.2.2.2.2.2.2.1
      have f5 := hq.2.2.2.2.2.2.2.2.2.2.2.2.2.2.1
      have f6 := hq.2.2.2.2.2.2.2.2.2.2.2.2.2.2.2.1
      have f7 := hq.2.2.2.2.2.2.2.2.2.2.2.2.2.2.2.2.1
      have f8 := hq.2.2.2.2.2.2.2.2.2.2.2.2.2.2.2.2.2.1
      have hlt := hq.2.2.2.2.2.2.2.2.2.2.2.2.2.2.2.2.2.2
      clear hq
      go_simp
      replace hA11 := blk_far9g hA11 (show a11 ≠ a10 by omega) (.int .i64 (k : Int)) (.int .i64 (T 0)) (.int .i64 (T 1)) (.int .i64 (T 2)) (.int .i64 (T 3)) (.int .i64 (T 4)) (.int .i64 (T 5)) (.int .i64 (domL (mv T k) : Nat)) (.int .i64 (imN k T : Nat))
      replace hA10 := blk_put9g hA10 (.int .i64 (k : Int)) (.int .i64 (T 0)) (.int .i64 (T 1)) (.int .i64 (T 2)) (.int .i64 (T 3)) (.int .i64 (T 4)) (.int .i64 (T 5)) (.int .i64 (domL (mv T k) : Nat)) (.int .i64 (imN k T : Nat))
      replace hV := bel_put9g hV (show V0.heap.size ≤ a10 by omega) (.int .i64 (k : Int)) (.int .i64 (T 0)) (.int .i64 (T 1)) (.int .i64 (T 2)) (.int .i64 (T 3)) (.int .i64 (T 4)) (.int .i64 (T 5)) (.int .i64 (domL (mv T k) : Nat)) (.int .i64 (imN k T : Nat))
      clear q0 q1 q2 q3 q4 q5 q6 q7 q8 f0 f1 f2 f3 f4 f5 f6 f7 f8 hlt
      refine hK.out _ _ ?_ (fun hHeld52 => ?_)
      · exact s14 (hc0.below hV hc0.lt) (hd0.below hV hd0.lt)
      clear hK K hHeld52
      generalize (((((((((V2.setCell ⟨a10, 0, none⟩ (.int .i64 (k : Int))).setCell ⟨a10, 1, none⟩ (.int .i64 (T 0))).setCell ⟨a10, 2, none⟩ (.int .i64 (T 1))).setCell ⟨a10, 3, none⟩ (.int .i64 (T 2))).setCell ⟨a10, 4, none⟩ (.int .i64 (T 3))).setCell ⟨a10, 5, none⟩ (.int .i64 (T 4))).setCell ⟨a10, 6, none⟩ (.int .i64 (T 5))).setCell ⟨a10, 7, none⟩ (.int .i64 (domL (mv T k) : Nat))).setCell ⟨a10, 8, none⟩ (.int .i64 (imN k T : Nat))) = X6 at *
      try simp only [Act.put, List.setIfInBounds_toArray, List.set_cons_zero, List.set_cons_succ]
      refine wpAnyH_ready (rs := [7]) (by kernel_rfl) (by simp) ?_
      refine AllReadyH.cons (o := _) (by rw [List.getElem?_toArray]; rfl) (fun K hK => ?_) AllReadyH.nil
      have hq := b9 hA11
      have q0 := hq.1
      have q1 := hq.2.1
      have q2 := hq.2.2.1
      have q3 := hq.2.2.2.1
      have q4 := hq.2.2.2.2.1
      have q5 := hq.2.2.2.2.2.1
      have q6 := hq.2.2.2.2.2.2.1
      have q7 := hq.2.2.2.2.2.2.2.1
      have q8 := hq.2.2.2.2.2.2.2.2.1
      have f0 := hq.2.2.2.2.2.2.2.2.2.1
      have f1 := hq.2.2.2.2.2.2.2.2.2.2.1
      have f2 := hq.2.2.2.2.2.2.2.2.2.2.2.1
      have f3 := hq.2.2.2.2.2.2.2.2.2.2.2.2.1
      have f4 := hq.2.2.2.2.2.2.2.2.2.2.2.2.2.1
      have f5 := hq.2.2.2.2.2.2.2.2.2.2.2.2.2.2.1
      have f6 := hq.2.2.2.2.2.2.2.2.2.2.2.2.2.2.2.1
      have f7 := hq.2.2.2.2.2.2.2.2.2.2.2.2.2.2.2.2.1
      have f8 := hq.2.2.2.2.2.2.2.2.2.2.2.2.2.2.2.2.2.1
      have hlt := hq.2.2.2.2.2.2.2.2.2.2.2.2.2.2.2.2.2.2
      clear hq
      go_simp
      replace hA10 := blk_far9g hA10 (show a10 ≠ a11 by omega) (.int .i64 (k2 : Int)) (.int .i64 (G 0)) (.int .i64 (G 1)) (.int .i64 (G 2)) (.int .i64 (G 3)) (.int .i64 (G 4)) (.int .i64 (G 5)) (.int .i64 (domL (mv G k2) : Nat)) (.int .i64 (imN k2 G : Nat))
      replace hA11 := blk_put9g hA11 (.int .i64 (k2 : Int)) (.int .i64 (G 0)) (.int .i64 (G 1)) (.int .i64 (G 2)) (.int .i64 (G 3)) (.int .i64 (G 4)) (.int .i64 (G 5)) (.int .i64 (domL (mv G k2) : Nat)) (.int .i64 (imN k2 G : Nat))
      replace hV := bel_put9g hV (show V0.heap.size ≤ a11 by omega) (.int .i64 (k2 : Int)) (.int .i64 (G 0)) (.int .i64 (G 1)) (.int .i64 (G 2)) (.int .i64 (G 3)) (.int .i64 (G 4)) (.int .i64 (G 5)) (.int .i64 (domL (mv G k2) : Nat)) (.int .i64 (imN k2 G : Nat))
      clear q0 q1 q2 q3 q4 q5 q6 q7 q8 f0 f1 f2 f3 f4 f5 f6 f7 f8 hlt
      refine hK.out _ _ ?_ (fun hHeld53 => ?_)
      · exact s14 (hc0.below hV hc0.lt) (hd0.below hV hd0.lt)
      clear hK K hHeld53
      generalize (((((((((X6.setCell ⟨a11, 0, none⟩ (.int .i64 (k2 : Int))).setCell ⟨a11, 1, none⟩ (.int .i64 (G 0))).setCell ⟨a11, 2, none⟩ (.int .i64 (G 1))).setCell ⟨a11, 3, none⟩ (.int .i64 (G 2))).setCell ⟨a11, 4, none⟩ (.int .i64 (G 3))).setCell ⟨a11, 5, none⟩ (.int .i64 (G 4))).setCell ⟨a11, 6, none⟩ (.int .i64 (G 5))).setCell ⟨a11, 7, none⟩ (.int .i64 (domL (mv G k2) : Nat))).setCell ⟨a11, 8, none⟩ (.int .i64 (imN k2 G : Nat))) = X7 at *
      try simp only [Act.put, List.setIfInBounds_toArray, List.set_cons_zero, List.set_cons_succ]
      refine wpAnyH_done (by kernel_rfl) ?_ _
      exact HK.out _ a10 a11 hA10 hA11 hV
    refine AllReadyH.cons (o := _) (by rw [List.getElem?_toArray]; rfl) (fun K hK => ?_) AllReadyH.nil
    go_simp
    have hsz10 := hV.size
    have hne := hA11.lt
    replace hA11 := hA11.alloc (.cells #[.int .i64 0, .int .i64 0, .int .i64 0, .int .i64 0, .int .i64 0, .int .i64 0, .int .i64 0, .int .i64 0, .int .i64 0] 65)
    replace hV := hV.alloc hV.size (.cells #[.int .i64 0, .int .i64 0, .int .i64 0, .int .i64 0, .int .i64 0, .int .i64 0, .int .i64 0, .int .i64 0, .int .i64 0] 65)
    have hA10 := Blk.new U11D0 65 #[.int .i64 0, .int .i64 0, .int .i64 0, .int .i64 0, .int .i64 0, .int .i64 0, .int .i64 0, .int .i64 0, .int .i64 0]
    refine hK.out _ _ ?_ (fun hHeld54 => ?_)
    · exact s14 (hc0.below hV hc0.lt) (hd0.below hV hd0.lt)
    clear hK K hHeld54
    generalize U11D0.alloc (.cells #[.int .i64 0, .int .i64 0, .int .i64 0, .int .i64 0, .int .i64 0, .int .i64 0, .int .i64 0, .int .i64 0, .int .i64 0] 65) = U10U11D0 at *
    generalize U11D0.heap.size = a10 at *
    try simp only [Act.put, List.setIfInBounds_toArray, List.set_cons_zero, List.set_cons_succ]
    refine wpAnyH_ready (rs := [1]) (by kernel_rfl) (by simp) ?_
    refine AllReadyH.cons (o := _) (by rw [List.getElem?_toArray]; rfl) (fun K hK => ?_) AllReadyH.nil
    go_simp
    refine (arrowOf_any k hk T hT _).mono ?_
    rintro e V1 ⟨rfl, hb1⟩
    replace hA10 := blk_keep hb1 hA10 rfl
    replace hA11 := blk_keep hb1 hA11 rfl
    replace hV := bel_keep hb1 hV rfl rfl rfl rfl hV.size
    clear hb1
    refine hK.out _ _ ?_ (fun hHeld55 => ?_)
    · exact s14 (hc0.below hV hc0.lt) (hd0.below hV hd0.lt)
    clear hK K hHeld55
    try simp only [Act.put, List.setIfInBounds_toArray, List.set_cons_zero, List.set_cons_succ]
    refine wpAnyH_ready (rs := [3]) (by kernel_rfl) (by simp) ?_
    refine AllReadyH.cons (o := _) (by rw [List.getElem?_toArray]; rfl) (fun K hK => ?_) AllReadyH.nil
    go_simp
    refine (arrowOf_any k2 hk2 G hG _).mono ?_
    rintro e V2 ⟨rfl, hb1⟩
    replace hA10 := blk_keep hb1 hA10 rfl
    replace hA11 := blk_keep hb1 hA11 rfl
    replace hV := bel_keep hb1 hV rfl rfl rfl rfl hV.size
    clear hb1
    refine hK.out _ _ ?_ (fun hHeld56 => ?_)
    · exact s14 (hc0.below hV hc0.lt) (hd0.below hV hd0.lt)
    clear hK K hHeld56
    try simp only [Act.put, List.setIfInBounds_toArray, List.set_cons_zero, List.set_cons_succ]
    refine wpAnyH_ready (rs := [6]) (by kernel_rfl) (by simp) ?_
    refine AllReadyH.cons (o := _) (by rw [List.getElem?_toArray]; rfl) (fun K hK => ?_) AllReadyH.nil
    have hq := b9 hA10
    have q0 := hq.1
    have q1 := hq.2.1
    have q2 := hq.2.2.1
    have q3 := hq.2.2.2.1
    have q4 := hq.2.2.2.2.1
    have q5 := hq.2.2.2.2.2.1
    have q6 := hq.2.2.2.2.2.2.1
    have q7 := hq.2.2.2.2.2.2.2.1
    have q8 := hq.2.2.2.2.2.2.2.2.1
    have f0 := hq.2.2.2.2.2.2.2.2.2.1
    have f1 := hq.2.2.2.2.2.2.2.2.2.2.1
    have f2 := hq.2.2.2.2.2.2.2.2.2.2.2.1
    have f3 := hq.2.2.2.2.2.2.2.2.2.2.2.2.1
    have f4 := hq.2.2.2.2.2.2.2.2.2.2.2.2.2.1
    have f5 := hq.2.2.2.2.2.2.2.2.2.2.2.2.2.2.1
    have f6 := hq.2.2.2.2.2.2.2.2.2.2.2.2.2.2.2.1
    have f7 := hq.2.2.2.2.2.2.2.2.2.2.2.2.2.2.2.2.1
    have f8 := hq.2.2.2.2.2.2.2.2.2.2.2.2.2.2.2.2.2.1
    have hlt := hq.2.2.2.2.2.2.2.2.2.2.2.2.2.2.2.2.2.2
    clear hq
    go_simp
    replace hA11 := blk_far9g hA11 (show a11 ≠ a10 by omega) (.int .i64 (k : Int)) (.int .i64 (T 0)) (.int .i64 (T 1)) (.int .i64 (T 2)) (.int .i64 (T 3)) (.int .i64 (T 4)) (.int .i64 (T 5)) (.int .i64 (domL (mv T k) : Nat)) (.int .i64 (imN k T : Nat))
    replace hA10 := blk_put9g hA10 (.int .i64 (k : Int)) (.int .i64 (T 0)) (.int .i64 (T 1)) (.int .i64 (T 2)) (.int .i64 (T 3)) (.int .i64 (T 4)) (.int .i64 (T 5)) (.int .i64 (domL (mv T k) : Nat)) (.int .i64 (imN k T : Nat))
    replace hV := bel_put9g hV (show V0.heap.size ≤ a10 by omega) (.int .i64 (k : Int)) (.int .i64 (T 0)) (.int .i64 (T 1)) (.int .i64 (T 2)) (.int .i64 (T 3)) (.int .i64 (T 4)) (.int .i64 (T 5)) (.int .i64 (domL (mv T k) : Nat)) (.int .i64 (imN k T : Nat))
    clear q0 q1 q2 q3 q4 q5 q6 q7 q8 f0 f1 f2 f3 f4 f5 f6 f7 f8 hlt
    refine hK.out _ _ ?_ (fun hHeld57 => ?_)
    · exact s14 (hc0.below hV hc0.lt) (hd0.below hV hd0.lt)
    clear hK K hHeld57
    generalize (((((((((V2.setCell ⟨a10, 0, none⟩ (.int .i64 (k : Int))).setCell ⟨a10, 1, none⟩ (.int .i64 (T 0))).setCell ⟨a10, 2, none⟩ (.int .i64 (T 1))).setCell ⟨a10, 3, none⟩ (.int .i64 (T 2))).setCell ⟨a10, 4, none⟩ (.int .i64 (T 3))).setCell ⟨a10, 5, none⟩ (.int .i64 (T 4))).setCell ⟨a10, 6, none⟩ (.int .i64 (T 5))).setCell ⟨a10, 7, none⟩ (.int .i64 (domL (mv T k) : Nat))).setCell ⟨a10, 8, none⟩ (.int .i64 (imN k T : Nat))) = X6 at *
    try simp only [Act.put, List.setIfInBounds_toArray, List.set_cons_zero, List.set_cons_succ]
    refine wpAnyH_ready (rs := [7]) (by kernel_rfl) (by simp) ?_
    refine AllReadyH.cons (o := _) (by rw [List.getElem?_toArray]; rfl) (fun K hK => ?_) AllReadyH.nil
    have hq := b9 hA11
    have q0 := hq.1
    have q1 := hq.2.1
    have q2 := hq.2.2.1
    have q3 := hq.2.2.2.1
    have q4 := hq.2.2.2.2.1
    have q5 := hq.2.2.2.2.2.1
    have q6 := hq.2.2.2.2.2.2.1
    have q7 := hq.2.2.2.2.2.2.2.1
    have q8 := hq.2.2.2.2.2.2.2.2.1
    have f0 := hq.2.2.2.2.2.2.2.2.2.1
    have f1 := hq.2.2.2.2.2.2.2.2.2.2.1
    have f2 := hq.2.2.2.2.2.2.2.2.2.2.2.1
    have f3 := hq.2.2.2.2.2.2.2.2.2.2.2.2.1
    have f4 := hq.2.2.2.2.2.2.2.2.2.2.2.2.2.1
    have f5 := hq.2.2.2.2.2.2.2.2.2.2.2.2.2.2.1
    have f6 := hq.2.2.2.2.2.2.2.2.2.2.2.2.2.2.2.1
    have f7 := hq.2.2.2.2.2.2.2.2.2.2.2.2.2.2.2.2.1
    have f8 := hq.2.2.2.2.2.2.2.2.2.2.2.2.2.2.2.2.2.1
    have hlt := hq.2.2.2.2.2.2.2.2.2.2.2.2.2.2.2.2.2.2
    clear hq
    go_simp
    replace hA10 := blk_far9g hA10 (show a10 ≠ a11 by omega) (.int .i64 (k2 : Int)) (.int .i64 (G 0)) (.int .i64 (G 1)) (.int .i64 (G 2)) (.int .i64 (G 3)) (.int .i64 (G 4)) (.int .i64 (G 5)) (.int .i64 (domL (mv G k2) : Nat)) (.int .i64 (imN k2 G : Nat))
    replace hA11 := blk_put9g hA11 (.int .i64 (k2 : Int)) (.int .i64 (G 0)) (.int .i64 (G 1)) (.int .i64 (G 2)) (.int .i64 (G 3)) (.int .i64 (G 4)) (.int .i64 (G 5)) (.int .i64 (domL (mv G k2) : Nat)) (.int .i64 (imN k2 G : Nat))
    replace hV := bel_put9g hV (show V0.heap.size ≤ a11 by omega) (.int .i64 (k2 : Int)) (.int .i64 (G 0)) (.int .i64 (G 1)) (.int .i64 (G 2)) (.int .i64 (G 3)) (.int .i64 (G 4)) (.int .i64 (G 5)) (.int .i64 (domL (mv G k2) : Nat)) (.int .i64 (imN k2 G : Nat))
    clear q0 q1 q2 q3 q4 q5 q6 q7 q8 f0 f1 f2 f3 f4 f5 f6 f7 f8 hlt
    refine hK.out _ _ ?_ (fun hHeld58 => ?_)
    · exact s14 (hc0.below hV hc0.lt) (hd0.below hV hd0.lt)
    clear hK K hHeld58
    generalize (((((((((X6.setCell ⟨a11, 0, none⟩ (.int .i64 (k2 : Int))).setCell ⟨a11, 1, none⟩ (.int .i64 (G 0))).setCell ⟨a11, 2, none⟩ (.int .i64 (G 1))).setCell ⟨a11, 3, none⟩ (.int .i64 (G 2))).setCell ⟨a11, 4, none⟩ (.int .i64 (G 3))).setCell ⟨a11, 5, none⟩ (.int .i64 (G 4))).setCell ⟨a11, 6, none⟩ (.int .i64 (G 5))).setCell ⟨a11, 7, none⟩ (.int .i64 (domL (mv G k2) : Nat))).setCell ⟨a11, 8, none⟩ (.int .i64 (imN k2 G : Nat))) = X7 at *
    try simp only [Act.put, List.setIfInBounds_toArray, List.set_cons_zero, List.set_cons_succ]
    refine wpAnyH_done (by kernel_rfl) ?_ _
    exact HK.out _ a10 a11 hA10 hA11 hV
  intro W x y hAx hAy hV
  refine aK1 _ _ ?_
  have hownW := own_below hown0 hV
  have hBW := hB0.trans (hV.mono hB0.size)
  have hC1 := containsAr_any (m0 zs) _ k (domL (mv T k) : Nat) (imN k T : Nat) T _ (atLs zs p) hq W hownW
  rw [cont_is HY.out HNO.out] at hC1
  clear hc0 hd0 hown0 hB0 hV aK1
  obtain ⟨a0, a1, a2, a3, a4, a5, a6, a7, a8⟩ := ar9 hAx
  cases hfm : decide (f ∈ atLs zs p)
  · have HR : Hid (giB zs f g p = false) := by show _ = _; rw [HGI.out, hfm]; rfl
    rw [hfm] at hC1
    clear hfm
    go_wp2_with fail
    refine hC1.mono ?_
    rintro e w5 ⟨rfl, hb5⟩
    have hB5 := hBW.trans (hb5.mono hBW.size)
    clear hC1 hb5
    go_wp2
    go_ret
    exact ⟨by rw [HR.out]; rfl, hB5⟩
  · have hfin : f ∈ atLs zs p := of_decide_eq_true hfm
    have HGI2 : Hid (giB zs f g p = (decide (g ∈ atLs zs p) && geB f g (ldN (atLs zs p)))) := by show _ = _; rw [HGI.out, hfm]; rfl
    rw [hfm] at hC1
    clear hfm
    go_wp2_with fail
    refine hC1.mono ?_
    rintro e w5 ⟨rfl, hb5⟩
    have hB5 := hBW.trans (hb5.mono hBW.size)
    have hown5 := own_below hownW hb5
    have hC2 := containsAr_any (m0 zs) _ k2 (domL (mv G k2) : Nat) (imN k2 G : Nat) G _ (atLs zs p) hq w5 hown5
    rw [cont_is HY2.out HNO2.out] at hC2
    replace hAx := hAx.below hb5 hAx.lt
    replace hAy := hAy.below hb5 hAy.lt
    obtain ⟨c0, c1, c2, c3, c4, c5, c6, c7, c8⟩ := ar9 hAy
    clear hC1 hb5 hownW hBW a0 a1 a2 a3 a4 a5 a6 a7 a8
    cases hgm : decide (g ∈ atLs zs p)
    · have HR : Hid (giB zs f g p = false) := by show _ = _; rw [HGI2.out, hgm]; rfl
      rw [hgm] at hC2
      clear hgm
      go_wp2_with fail
      refine hC2.mono ?_
      rintro e w6 ⟨rfl, hb6⟩
      have hB6 := hB5.trans (hb6.mono hB5.size)
      clear hC2 hb6
      go_wp2
      go_ret
      exact ⟨by rw [HR.out]; rfl, hB6⟩
    · have hgin : g ∈ atLs zs p := of_decide_eq_true hgm
      have HGI3 : Hid (giB zs f g p = geB f g (ldN (atLs zs p))) := by show _ = _; rw [HGI2.out, hgm]; rfl
      rw [hgm] at hC2
      obtain ⟨cf, lf⟩ := HLA.out f hfin
      obtain ⟨cg, lg⟩ := HLA.out g hgin
      obtain ⟨ek, eT⟩ := HY.out cf
      obtain ⟨ek2, eG⟩ := HY2.out cg
      obtain rfl : k2 = k := by omega
      have hlo := leastObj_any (m0 zs) w.heap.size (.slice Av (atLs zs p).length cv) (atLs zs p) hq
      have hld := ldN_64 (atLs zs p)
      have HCF : Hid (isC f = true ∧ isC g = true ∧ f.length = g.length ∧ f.length = k2) := ⟨cf, cg, by omega, by omega⟩
      have HTT : Hid (∀ j, j < 6 → T j = ofL f j) := eT
      have HGG : Hid (∀ j, j < 6 → G j = ofL g j) := eG
      clear hgm hfin hgin cf cg lf lg ek ek2 eT eG HY HY2 HNO HNO2 HLA HGI2 HGI
      go_wp2_with fail
      refine hC2.mono ?_
      rintro e w6 ⟨rfl, hb6⟩
      have hB6 := hB5.trans (hb6.mono hB5.size)
      have hlo6 := hlo w6 (own_below hown5 hb6)
      replace hAx := hAx.below hb6 hAx.lt
      replace hAy := hAy.below hb6 hAy.lt
      clear hC2 hb6 hown5 hB5 hlo c0 c1 c2 c3 c4 c5 c6 c7 c8
      generalize ldN (atLs zs p) = ld at *
      go_wp2_with fail
      refine hlo6.mono ?_
      rintro e w7 ⟨rfl, hb7⟩
      have hB7 := hB6.trans (hb7.mono hB6.size)
      replace hAx := hAx.below hb7 hAx.lt
      replace hAy := hAy.below hb7 hAy.lt
      clear hlo6 hb7 hB6
      go_wp2_with fail
      refine wp_region_held_drew (S := (fun w' => w'.cell? ⟨x, 0, none⟩ = some (.int .i64 (k2 : Int)) ∧ w'.cell? ⟨x, 1, none⟩ = some (.int .i64 (T 0)) ∧ w'.cell? ⟨x, 2, none⟩ = some (.int .i64 (T 1)) ∧ w'.cell? ⟨x, 3, none⟩ = some (.int .i64 (T 2)) ∧ w'.cell? ⟨x, 4, none⟩ = some (.int .i64 (T 3)) ∧ w'.cell? ⟨x, 5, none⟩ = some (.int .i64 (T 4)) ∧ w'.cell? ⟨x, 6, none⟩ = some (.int .i64 (T 5)) ∧ w'.cell? ⟨x, 7, none⟩ = some (.int .i64 (domL (mv T k2) : Nat)) ∧ w'.cell? ⟨x, 8, none⟩ = some (.int .i64 (imN k2 T : Nat)) ∧ w'.cell? ⟨y, 0, none⟩ = some (.int .i64 (k2 : Int)) ∧ w'.cell? ⟨y, 1, none⟩ = some (.int .i64 (G 0)) ∧ w'.cell? ⟨y, 2, none⟩ = some (.int .i64 (G 1)) ∧ w'.cell? ⟨y, 3, none⟩ = some (.int .i64 (G 2)) ∧ w'.cell? ⟨y, 4, none⟩ = some (.int .i64 (G 3)) ∧ w'.cell? ⟨y, 5, none⟩ = some (.int .i64 (G 4)) ∧ w'.cell? ⟨y, 6, none⟩ = some (.int .i64 (G 5)) ∧ w'.cell? ⟨y, 7, none⟩ = some (.int .i64 (domL (mv G k2) : Nat)) ∧ w'.cell? ⟨y, 8, none⟩ = some (.int .i64 (imN k2 G : Nat)))) (by kernel_rfl) ?_ (fun hHeld => ?_)
      · exact s18g hAx hAy
      replace hAx := hAx.drew
      replace hAy := hAy.drew
      replace hB7 := hB7.drew
      clear hHeld
      generalize w7.drew = E0 at *
      refine wpAnyH_take (i := 0) (v := .agg #[.int .i64 (k2 : Int), .int .i64 (T 0), .int .i64 (T 1), .int .i64 (T 2), .int .i64 (T 3), .int .i64 (T 4), .int .i64 (T 5), .int .i64 (domL (mv T k2) : Nat), .int .i64 (imN k2 T : Nat)]) (by rw [List.getElem?_toArray]; rfl) (by kernel_rfl) (by kernel_rfl) (by kernel_rfl) (by exact fun _ _ _ h => h) (Or.inl ⟨by rfl, fun w hSw => by (try dsimp only at hSw); go_simp⟩) (s18g hAx hAy) ?_
      try simp only [Act.put, List.setIfInBounds_toArray, List.set_cons_zero, List.set_cons_succ]
      refine wpAnyH_take (i := 1) (v := .int .i64 (ld : Int)) (by rw [List.getElem?_toArray]; rfl) (by kernel_rfl) (by kernel_rfl) (by kernel_rfl) (by exact fun _ _ _ h => h) (Or.inl ⟨by rfl, fun w hSw => by (try dsimp only at hSw); go_simp⟩) (s18g hAx hAy) ?_
      try simp only [Act.put, List.setIfInBounds_toArray, List.set_cons_zero, List.set_cons_succ]
      refine wpAnyH_take (i := 3) (v := .agg #[.int .i64 (k2 : Int), .int .i64 (G 0), .int .i64 (G 1), .int .i64 (G 2), .int .i64 (G 3), .int .i64 (G 4), .int .i64 (G 5), .int .i64 (domL (mv G k2) : Nat), .int .i64 (imN k2 G : Nat)]) (by rw [List.getElem?_toArray]; rfl) (by kernel_rfl) (by kernel_rfl) (by kernel_rfl) (by exact fun _ _ _ h => h) (Or.inl ⟨by rfl, fun w hSw => by (try dsimp only at hSw); go_simp⟩) (s18g hAx hAy) ?_
      try simp only [Act.put, List.setIfInBounds_toArray, List.set_cons_zero, List.set_cons_succ]
      refine wpAnyH_take (i := 4) (v := .int .i64 (ld : Int)) (by rw [List.getElem?_toArray]; rfl) (by kernel_rfl) (by kernel_rfl) (by kernel_rfl) (by exact fun _ _ _ h => h) (Or.inl ⟨by rfl, fun w hSw => by (try dsimp only at hSw); go_simp⟩) (s18g hAx hAy) ?_
      try simp only [Act.put, List.setIfInBounds_toArray, List.set_cons_zero, List.set_cons_succ]
      refine wpAnyH_ready (rs := [2]) (by kernel_rfl) (by simp) ?_
      refine AllReadyH.cons (o := _) (by rw [List.getElem?_toArray]; rfl) (fun K hK => ?_) AllReadyH.nil
      go_simp
      refine (germ_any k2 hk T hT _ _ ld hld _).mono ?_
      rintro e E1 ⟨T', rfl, HTd, hb1⟩
      replace hAx := blk_keep hb1 hAx rfl
      replace hAy := blk_keep hb1 hAy rfl
      replace hB7 := bel_keep hb1 hB7 rfl rfl rfl rfl hB7.size
      clear hb1
      refine hK.out _ _ ?_ (fun hHeldE1 => ?_)
      · exact s18g hAx hAy
      clear hK K hHeldE1
      try simp only [Act.put, List.setIfInBounds_toArray, List.set_cons_zero, List.set_cons_succ]
      refine wpAnyH_ready (rs := [5]) (by kernel_rfl) (by simp) ?_
      refine AllReadyH.cons (o := _) (by rw [List.getElem?_toArray]; rfl) (fun K hK => ?_) AllReadyH.nil
      go_simp
      refine (germ_any k2 hk G hG _ _ ld hld _).mono ?_
      rintro e E2 ⟨G', rfl, HGd, hb1⟩
      replace hAx := blk_keep hb1 hAx rfl
      replace hAy := blk_keep hb1 hAy rfl
      replace hB7 := bel_keep hb1 hB7 rfl rfl rfl rfl hB7.size
      clear hb1
      refine hK.out _ _ ?_ (fun hHeldE2 => ?_)
      · exact s18g hAx hAy
      clear hK K hHeldE2
      try simp only [Act.put, List.setIfInBounds_toArray, List.set_cons_zero, List.set_cons_succ]
      have habe := ge_is HCF.out.1 HCF.out.2.1 HCF.out.2.2.1 (cut_at HCF.out.1 HTT.out (ld := ld) (T' := T') (by rw [HCF.out.2.2.2]; exact HTd.out)) (cut_at HCF.out.2.1 HGG.out (ld := ld) (T' := G') (by rw [← HCF.out.2.2.1, HCF.out.2.2.2]; exact HGd.out))
      obtain ⟨ab, hab⟩ : ∃ ab : Bool, (T' 0 == G' 0 && (T' 1 == G' 1 && (T' 2 == G' 2 && (T' 3 == G' 3 && (T' 4 == G' 4 && T' 5 == G' 5))))) = ab := ⟨_, rfl⟩
      have harr : ∀ W, (Op.equalIn 9999 59 (.agg #[.int .i64 (T' 0), .int .i64 (T' 1), .int .i64 (T' 2), .int .i64 (T' 3), .int .i64 (T' 4), .int .i64 (T' 5)]) (.agg #[.int .i64 (G' 0), .int .i64 (G' 1), .int .i64 (G' 2), .int .i64 (G' 3), .int .i64 (G' 4), .int .i64 (G' 5)])).run Tryz.prog W = .ok ab W := fun W => by rw [← hab]; exact arr_eq _ _ _ _ _ _ _ _ _ _ _ _ W
      rw [hab] at habe
      have HAB := Lib.hid habe
      clear hab habe
      refine wpAnyH_take (i := 6) (v := .bool ab) (by rw [List.getElem?_toArray]; rfl) (by kernel_rfl) (by kernel_rfl) (by kernel_rfl) (by exact fun _ _ _ h => h) (Or.inl ⟨by rfl, fun w hSw => by (try dsimp only at hSw); (go_simp <;> (cases ab <;> simp))⟩) (s18g hAx hAy) ?_
      try simp only [Act.put, List.setIfInBounds_toArray, List.set_cons_zero, List.set_cons_succ]
      refine wpAnyH_take (i := 7) (v := .bool ab) (by rw [List.getElem?_toArray]; rfl) (by kernel_rfl) (by kernel_rfl) (by kernel_rfl) (by exact fun _ _ _ h => h) (Or.inl ⟨by rfl, fun w hSw => by (try dsimp only at hSw); go_simp⟩) (s18g hAx hAy) ?_
      try simp only [Act.put, List.setIfInBounds_toArray, List.set_cons_zero, List.set_cons_succ]
      refine wpAnyH_done (by kernel_rfl) ?_ _
      clear harr hAx hAy
      go_wp2
      go_ret
      exact ⟨by rw [HGI3.out, ← HAB.out]; rfl, hB7⟩
end

end Go.Proofs.YtoomeimloaloaaaGreatDoor
