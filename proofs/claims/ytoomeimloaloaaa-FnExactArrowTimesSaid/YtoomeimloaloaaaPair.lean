/-
  impl.chartPair.
-/
import Derived.Test.YtoomeimloaloaaaOf
import Derived.RegionTactic
import Derived.BigRegion
namespace Go.Proofs.Ytoomeimloaloaaa
set_option maxRecDepth 100000
open Go.RowKit

/-- two lists are charts of as many points -/
def isP (f g : List Int) : Bool := isC f && (isC g && decide (f.length = g.length))
def pk (f g : List Int) : Nat := if isP f g = true then f.length else 0
def pF (f g : List Int) (j : Nat) : Int := if isP f g = true then ofL f j else 0
def pG (f g : List Int) (j : Nat) : Int := if isP f g = true then ofL g j else 0

def PairPost (f g : List Int) (w : World) (e : Ending) (w' : World) : Prop :=
  ∃ (k : Nat) (T G : Nat → Int), e = .returned (.tuple #[.agg #[.int .i64 ((k : Int)), .int .i64 (T 0), .int .i64 (T 1), .int .i64 (T 2), .int .i64 (T 3), .int .i64 (T 4), .int .i64 (T 5)], .agg #[.int .i64 ((k : Int)), .int .i64 (G 0), .int .i64 (G 1), .int .i64 (G 2), .int .i64 (G 3), .int .i64 (G 4), .int .i64 (G 5)], .bool (isP f g)]) ∧ k = pk f g ∧ (∀ j, j < 6 → T j = pF f g j) ∧ (∀ j, j < 6 → G j = pG f g j) ∧ Below w.heap.size w w'

theorem pair_no {f g : List Int} (h : isP f g = false) : 0 = pk f g ∧ (∀ j : Nat, j < 6 → (0 : Int) = pF f g j) ∧ (∀ j : Nat, j < 6 → (0 : Int) = pG f g j) := by
  simp [pk, pF, pG, h]

theorem below_set77 {b b' : Nat} {a w : World} (h : Below a.heap.size a w) (hb : a.heap.size ≤ b) (hb' : a.heap.size ≤ b') (v0 v1 v2 v3 v4 v5 v6 u0 u1 u2 u3 u4 u5 u6 : Value) (o : Obj) :
    Below a.heap.size a ((((((((((((((((w.setCell ⟨b, 0, none⟩ v0).setCell ⟨b, 1, none⟩ v1).setCell ⟨b, 2, none⟩ v2).setCell ⟨b, 3, none⟩ v3).setCell ⟨b, 4, none⟩ v4).setCell ⟨b, 5, none⟩ v5).setCell ⟨b, 6, none⟩ v6).setCell ⟨b', 0, none⟩ u0).setCell ⟨b', 1, none⟩ u1).setCell ⟨b', 2, none⟩ u2).setCell ⟨b', 3, none⟩ u3).setCell ⟨b', 4, none⟩ u4).setCell ⟨b', 5, none⟩ u5).setCell ⟨b', 6, none⟩ u6).alloc o)) :=
  have hh := below_set7 (below_set7 h hb v0 v1 v2 v3 v4 v5 v6) hb' u0 u1 u2 u3 u4 u5 u6
  hh.alloc hh.size o

set_option maxHeartbeats 2000000 in
theorem chartPair_any (A B : Option Addr) (n m c d : Nat) (zs ys : List Int) (w : World) (h : RI w A n zs) (h' : RI w B m ys) :
    Calls Try.prog 36 #[.slice A n c, .slice B m d] w (PairPost zs ys w) := by
  have HL := Lib.hid h.len
  have HL' := Lib.hid h'.len
  go_enter Try.func36, Try.ntmps36
  go_wp2_with fail
  have hb0 : Below w.heap.size w ((w.alloc (.cells #[.int .i64 ((0 : Int)), .int .i64 ((fun _ => (0 : Int)) 0), .int .i64 ((fun _ => (0 : Int)) 1), .int .i64 ((fun _ => (0 : Int)) 2), .int .i64 ((fun _ => (0 : Int)) 3), .int .i64 ((fun _ => (0 : Int)) 4), .int .i64 ((fun _ => (0 : Int)) 5)] 38)).alloc (.cells #[.int .i64 ((0 : Int)), .int .i64 ((fun _ => (0 : Int)) 0), .int .i64 ((fun _ => (0 : Int)) 1), .int .i64 ((fun _ => (0 : Int)) 2), .int .i64 ((fun _ => (0 : Int)) 3), .int .i64 ((fun _ => (0 : Int)) 4), .int .i64 ((fun _ => (0 : Int)) 5)] 38)) := ((Below.refl _ w).alloc (Nat.le_refl _) _).alloc (by simp) _
  have hR0 := (Cb.new w 0 (fun _ => 0)).alloc (.cells #[.int .i64 ((0 : Int)), .int .i64 ((fun _ => (0 : Int)) 0), .int .i64 ((fun _ => (0 : Int)) 1), .int .i64 ((fun _ => (0 : Int)) 2), .int .i64 ((fun _ => (0 : Int)) 3), .int .i64 ((fun _ => (0 : Int)) 4), .int .i64 ((fun _ => (0 : Int)) 5)] 38)
  have hR1 := Cb.new (w.alloc (.cells #[.int .i64 ((0 : Int)), .int .i64 ((fun _ => (0 : Int)) 0), .int .i64 ((fun _ => (0 : Int)) 1), .int .i64 ((fun _ => (0 : Int)) 2), .int .i64 ((fun _ => (0 : Int)) 3), .int .i64 ((fun _ => (0 : Int)) 4), .int .i64 ((fun _ => (0 : Int)) 5)] 38)) 0 (fun _ => 0)
  rw [World.size_alloc] at hR1
  refine (chartOf_any _ _ _ _ _ (h.below hb0)).mono ?_
  rintro e w1 ⟨k, T, rfl, hy, hno, hb⟩
  have HY := Lib.hid hy
  have HN := Lib.hid hno
  have hB1 : Below w.heap.size w w1 := hb0.trans (hb.mono hb0.size)
  have hz1 : w.heap.size + 1 + 1 ≤ w1.heap.size := by have := hb.size; simpa using this
  have hR0 := (hR0.below hb (by simp <;> omega)).alloc (.cells #[.int .i64 ((k : Int)), .int .i64 (T 0), .int .i64 (T 1), .int .i64 (T 2), .int .i64 (T 3), .int .i64 (T 4), .int .i64 (T 5)] 38)
  have hR1 := (hR1.below hb (by simp <;> omega)).alloc (.cells #[.int .i64 ((k : Int)), .int .i64 (T 0), .int .i64 (T 1), .int .i64 (T 2), .int .i64 (T 3), .int .i64 (T 4), .int .i64 (T 5)] 38)
  have hC := Cb.new w1 k T
  have hB1' := hB1.alloc hB1.size (.cells #[.int .i64 ((k : Int)), .int .i64 (T 0), .int .i64 (T 1), .int .i64 (T 2), .int .i64 (T 3), .int .i64 (T 4), .int .i64 (T 5)] 38)
  clear hb hb0 hB1 hy hno
  go_wp2_with fail
  refine (chartOf_any _ _ _ _ _ (h'.below hB1')).mono ?_
  rintro e w2 ⟨k', T', rfl, hy', hno', hb⟩
  have HY' := Lib.hid hy'
  have HN' := Lib.hid hno'
  have hB2 : Below w.heap.size w w2 := hB1'.trans (hb.mono hB1'.size)
  have hz2 : w1.heap.size + 1 ≤ w2.heap.size := by have := hb.size; simpa using this
  have hR0 := hR0.below hb (by simp <;> omega)
  have hR1 := hR1.below hb (by simp <;> omega)
  have hC := hC.below hb (by simp)
  have hq0 : w.heap.size < w2.heap.size := by omega
  have hq1 : w.heap.size + 1 < w2.heap.size := by omega
  have hq2 : w1.heap.size < w2.heap.size := by omega
  have hB3 := hB2.alloc hB2.size (.cells #[.int .i64 ((k' : Int)), .int .i64 (T' 0), .int .i64 (T' 1), .int .i64 (T' 2), .int .i64 (T' 3), .int .i64 (T' 4), .int .i64 (T' 5)] 38)
  clear hb hB1' hB3 h h' hy' hno'
  obtain ⟨a0, a1, a2, a3, a4, a5, a6⟩ := hR0.all
  obtain ⟨b0, b1, b2, b3, b4, b5, b6⟩ := hR0.frees
  obtain ⟨c0, c1, c2, c3, c4, c5, c6⟩ := hR1.all
  obtain ⟨d0, d1, d2, d3, d4, d5, d6⟩ := hR1.frees
  obtain ⟨e0, e1, e2, e3, e4, e5, e6⟩ := hC.all
  cases hCf : isC zs
  · have HP : Hid (isP zs ys = false) := by show _ = _; simp [isP, hCf]
    clear hCf
    go_wp2
    refine bodyPost_ret (v := .tuple #[.agg #[.int .i64 (((0 : Nat) : Int)), .int .i64 ((fun _ => (0 : Int)) 0), .int .i64 ((fun _ => (0 : Int)) 1), .int .i64 ((fun _ => (0 : Int)) 2), .int .i64 ((fun _ => (0 : Int)) 3), .int .i64 ((fun _ => (0 : Int)) 4), .int .i64 ((fun _ => (0 : Int)) 5)], .agg #[.int .i64 (((0 : Nat) : Int)), .int .i64 ((fun _ => (0 : Int)) 0), .int .i64 ((fun _ => (0 : Int)) 1), .int .i64 ((fun _ => (0 : Int)) 2), .int .i64 ((fun _ => (0 : Int)) 3), .int .i64 ((fun _ => (0 : Int)) 4), .int .i64 ((fun _ => (0 : Int)) 5)], .bool false]) (by simp [results, Try.results36, go_sem, hq0, hq1, a0, a1, a2, a3, a4, a5, a6, c0, c1, c2, c3, c4, c5, c6]) rfl ⟨0, fun _ => 0, fun _ => 0, by rw [HP.out], (pair_no HP.out).1, (pair_no HP.out).2.1, (pair_no HP.out).2.2, below_set77 hB2 (Nat.le_refl _) (Nat.le_succ _) _ _ _ _ _ _ _ _ _ _ _ _ _ _ _⟩
  · cases hCg : isC ys
    · have HP : Hid (isP zs ys = false) := by show _ = _; simp [isP, hCg]
      clear hCf hCg
      go_wp2
      refine bodyPost_ret (v := .tuple #[.agg #[.int .i64 (((0 : Nat) : Int)), .int .i64 ((fun _ => (0 : Int)) 0), .int .i64 ((fun _ => (0 : Int)) 1), .int .i64 ((fun _ => (0 : Int)) 2), .int .i64 ((fun _ => (0 : Int)) 3), .int .i64 ((fun _ => (0 : Int)) 4), .int .i64 ((fun _ => (0 : Int)) 5)], .agg #[.int .i64 (((0 : Nat) : Int)), .int .i64 ((fun _ => (0 : Int)) 0), .int .i64 ((fun _ => (0 : Int)) 1), .int .i64 ((fun _ => (0 : Int)) 2), .int .i64 ((fun _ => (0 : Int)) 3), .int .i64 ((fun _ => (0 : Int)) 4), .int .i64 ((fun _ => (0 : Int)) 5)], .bool false]) (by simp [results, Try.results36, go_sem, hq0, hq1, a0, a1, a2, a3, a4, a5, a6, c0, c1, c2, c3, c4, c5, c6]) rfl ⟨0, fun _ => 0, fun _ => 0, by rw [HP.out], (pair_no HP.out).1, (pair_no HP.out).2.1, (pair_no HP.out).2.2, below_set77 hB2 (Nat.le_refl _) (Nat.le_succ _) _ _ _ _ _ _ _ _ _ _ _ _ _ _ _⟩
    · have HZ := Lib.hid (HY.out hCf)
      have HZ' := Lib.hid (HY'.out hCg)
      by_cases hl : k = k'
      · have hne : ((k : Int) != (k' : Int)) = false := by simp [hl]
        have HP : Hid (isP zs ys = true) := by show _ = _; simp [isP, hCf, hCg]; rw [← HZ.out.1, ← HZ'.out.1, hl]
        have HKK := Lib.hid hl
        clear hCf hCg hl
        go_wp2
        go_region
        all_goals go_wp2
        refine bodyPost_ret (v := .tuple #[.agg #[.int .i64 ((k : Int)), .int .i64 (T 0), .int .i64 (T 1), .int .i64 (T 2), .int .i64 (T 3), .int .i64 (T 4), .int .i64 (T 5)], .agg #[.int .i64 ((k' : Int)), .int .i64 (T' 0), .int .i64 (T' 1), .int .i64 (T' 2), .int .i64 (T' 3), .int .i64 (T' 4), .int .i64 (T' 5)], .bool true]) (by simp [results, Try.results36, go_sem, hq0, hq1, a0, a1, a2, a3, a4, a5, a6, c0, c1, c2, c3, c4, c5, c6]) rfl ⟨k, T, T', by rw [HP.out, HKK.out], ?_, fun j hj => ?_, fun j hj => ?_, (below_set77 hB2 (Nat.le_refl _) (Nat.le_succ _) _ _ _ _ _ _ _ _ _ _ _ _ _ _ _).drew⟩
        · simp [pk, HP.out, HZ.out.1]
        · simp [pF, HP.out, HZ.out.2 j hj]
        · simp [pG, HP.out, HZ'.out.2 j hj]
      · have hne : ((k : Int) != (k' : Int)) = true := by rw [bne_iff_ne]; omega
        have HP : Hid (isP zs ys = false) := by
          show _ = _
          simp only [isP, hCf, hCg, Bool.true_and]
          exact decide_eq_false (fun e => hl (by rw [HZ.out.1, HZ'.out.1, e]))
        clear hCf hCg hl
        go_wp2
        refine bodyPost_ret (v := .tuple #[.agg #[.int .i64 (((0 : Nat) : Int)), .int .i64 ((fun _ => (0 : Int)) 0), .int .i64 ((fun _ => (0 : Int)) 1), .int .i64 ((fun _ => (0 : Int)) 2), .int .i64 ((fun _ => (0 : Int)) 3), .int .i64 ((fun _ => (0 : Int)) 4), .int .i64 ((fun _ => (0 : Int)) 5)], .agg #[.int .i64 (((0 : Nat) : Int)), .int .i64 ((fun _ => (0 : Int)) 0), .int .i64 ((fun _ => (0 : Int)) 1), .int .i64 ((fun _ => (0 : Int)) 2), .int .i64 ((fun _ => (0 : Int)) 3), .int .i64 ((fun _ => (0 : Int)) 4), .int .i64 ((fun _ => (0 : Int)) 5)], .bool false]) (by simp [results, Try.results36, go_sem, hq0, hq1, a0, a1, a2, a3, a4, a5, a6, c0, c1, c2, c3, c4, c5, c6]) rfl ⟨0, fun _ => 0, fun _ => 0, by rw [HP.out], (pair_no HP.out).1, (pair_no HP.out).2.1, (pair_no HP.out).2.2, below_set77 hB2 (Nat.le_refl _) (Nat.le_succ _) _ _ _ _ _ _ _ _ _ _ _ _ _ _ _⟩
end Go.Proofs.Ytoomeimloaloaaa
