/-
  The laws' own functions on graphs: toGraph, eqGraph, szGraph.
-/
import Derived.Test.YthliifgjolgmgaaDoorUtil
import Derived.Test.YthliifgjolgmgaaDoorGa
namespace Go.Proofs.YthliifgjolgmgaaDoor
set_option maxRecDepth 100000
open Go.RowKit Go.Lib

theorem gt_down {w : World} {base base' size n : Nat} {e : TypeId} {v : Value} {xs : List Value} (h : w.ownsRow base e size v n xs) (hb : base' ≤ base) : w.ownsRow base' e size v n xs :=
  ⟨h.1, h.2.elim .inl fun ⟨g, cap, cur, e1, e2, r⟩ => .inr ⟨g, cap, cur, e1, Nat.le_trans hb e2, r⟩⟩
theorem gt_below {w w' : World} {base size n : Nat} {e : TypeId} {v : Value} {xs : List Value} (h : w.ownsRow base e size v n xs) (hb : Below w.heap.size w w') : w'.ownsRow base e size v n xs :=
  h.kept (row := none) ⟨hb.os, hb.tape, hb.output, hb.size, fun k hk _ => hb.block k hk⟩ (by cases v.ownBlock <;> simp)
set_option maxHeartbeats 2000000 in
theorem toGraph_any (k : Int) (a b : Option Addr) (n m c d : Nat) (zs ys : List Int) (w : World) (h : RI w a n zs) (h' : RI w b m ys) (hn : n ≤ 1048576) (hm : m ≤ 1048576) :
    Calls Tryd.prog 17 #[.agg #[.int .i64 k, .slice a n c, .slice b m d]] w fun e w' => ∃ A B : Addr, e = .returned (.agg #[.int .i64 k, .slice (some A) n n, .slice (some B) m m]) ∧ w'.ownsRow w.heap.size 3 1 (.slice (some A) n n) n (ivs zs) ∧ w'.ownsRow w.heap.size 3 1 (.slice (some B) m m) m (ivs ys) ∧ A.block ≠ B.block ∧ Below w.heap.size w w' := by
  have hB0 : Below w.heap.size w (((w.alloc (.cells #[.int .i64 k, .slice a n c, .slice b m d] 34)).alloc (.cells #[.int .i64 0, .slice none 0 0, .slice none 0 0] 26)).alloc (.cells #[.int .i64 k, .slice none 0 0, .slice none 0 0] 26)) := (((Below.refl _ w).alloc (Nat.le_refl _) _).alloc (by simp) _).alloc (by simp; omega) _
  have hA0 : Blk (((w.alloc (.cells #[.int .i64 k, .slice a n c, .slice b m d] 34)).alloc (.cells #[.int .i64 0, .slice none 0 0, .slice none 0 0] 26)).alloc (.cells #[.int .i64 k, .slice none 0 0, .slice none 0 0] 26)) w.heap.size 34 #[.int .i64 k, .slice a n c, .slice b m d] := ((Blk.new w _ _).alloc _).alloc _
  have hA1 : Blk (((w.alloc (.cells #[.int .i64 k, .slice a n c, .slice b m d] 34)).alloc (.cells #[.int .i64 0, .slice none 0 0, .slice none 0 0] 26)).alloc (.cells #[.int .i64 k, .slice none 0 0, .slice none 0 0] 26)) (w.heap.size + 1) 26 #[.int .i64 0, .slice none 0 0, .slice none 0 0] := by
    have := Blk.new (w.alloc (.cells #[.int .i64 k, .slice a n c, .slice b m d] 34)) 26 #[.int .i64 0, .slice none 0 0, .slice none 0 0]
    rw [World.size_alloc] at this
    exact this.alloc _
  have hA2 : Blk (((w.alloc (.cells #[.int .i64 k, .slice a n c, .slice b m d] 34)).alloc (.cells #[.int .i64 0, .slice none 0 0, .slice none 0 0] 26)).alloc (.cells #[.int .i64 k, .slice none 0 0, .slice none 0 0] 26)) (w.heap.size + 1 + 1) 26 #[.int .i64 k, .slice none 0 0, .slice none 0 0] := by
    have := Blk.new ((w.alloc (.cells #[.int .i64 k, .slice a n c, .slice b m d] 34)).alloc (.cells #[.int .i64 0, .slice none 0 0, .slice none 0 0] 26)) 26 #[.int .i64 k, .slice none 0 0, .slice none 0 0]
    rw [World.size_alloc, World.size_alloc] at this
    exact this
  have hT := toIntS_any a n c zs _ (h.below hB0) hn
  have hsz : (((w.alloc (.cells #[.int .i64 k, .slice a n c, .slice b m d] 34)).alloc (.cells #[.int .i64 0, .slice none 0 0, .slice none 0 0] 26)).alloc (.cells #[.int .i64 k, .slice none 0 0, .slice none 0 0] 26)).heap.size = w.heap.size + 1 + 1 + 1 := by simp
  rw [hsz] at hT
  have HT := Lib.hid hT
  have HB0 := Lib.hid hB0
  have HA0 := Lib.hid hA0
  have HA1 := Lib.hid hA1
  have HA2 := Lib.hid hA2
  have HR' : Hid (∀ W : World, Below w.heap.size w W → RI W b m ys) := fun W hW => h'.below hW
  clear hT hB0 hA0 hA1 hA2 hsz h h'
  go_enter Tryd.func17, Tryd.ntmps17
  go_wp2_with fail
  refine HT.out.mono ?_
  rintro e w1 ⟨A, rfl, hown, hb⟩
  have h0 := HA0.out.below hb (by omega)
  have h1 := HA1.out.below hb (by omega)
  have h2 := HA2.out.below hb (by omega)
  have hB1 := HB0.out.trans (hb.mono (by omega))
  have hAl := (hown.lt A.block rfl)
  -- the first list is stored
  have hown2 := ownsRow_setCell_other hown (own_blk_ne hown h2 (by decide)) (.slice (some A) n n) (a := ⟨w.heap.size + 1 + 1, 1, none⟩)
  have k0 : Blk (w1.setCell ⟨w.heap.size + 1 + 1, 1, none⟩ (.slice (some A) n n)) w.heap.size _ _ := h0.far (by show w.heap.size ≠ w.heap.size + 1 + 1; omega) _
  have k1 : Blk (w1.setCell ⟨w.heap.size + 1 + 1, 1, none⟩ (.slice (some A) n n)) (w.heap.size + 1) _ _ := h1.far (by show w.heap.size + 1 ≠ w.heap.size + 1 + 1; omega) _
  have k2 : Blk (w1.setCell ⟨w.heap.size + 1 + 1, 1, none⟩ (.slice (some A) n n)) (w.heap.size + 1 + 1) 26 #[.int .i64 k, .slice (some A) n n, .slice none 0 0] := h2.set_ 1 _
  have hB2 := hB1.setCell (p := ⟨w.heap.size + 1 + 1, 1, none⟩) (by simp; omega) (.slice (some A) n n)
  have d1 : w1.cell? ⟨w.heap.size + 1 + 1, 1, none⟩ = some (.slice none 0 0) := h2.cell 1
  have e1 := h2.frozen 1
  have hlt := h2.lt
  have HT2 := Lib.hid (toIntS_any b m d ys (w1.setCell ⟨w.heap.size + 1 + 1, 1, none⟩ (.slice (some A) n n)) (HR'.out _ hB2) hm)
  have hs1 : (w1.setCell ⟨w.heap.size + 1 + 1, 1, none⟩ (.slice (some A) n n)).heap.size = w1.heap.size := by simp [World.setCell]
  have b2 : w1.cell? ⟨w.heap.size, 2, none⟩ = some (.slice b m d) := h0.cell 2
  have HOWN := Lib.hid hown2
  have K0 := Lib.hid k0
  have K1 := Lib.hid k1
  have K2 := Lib.hid k2
  have HB2 := Lib.hid hB2
  have HAL := Lib.hid hAl
  clear h0 h1 h2 hB1 hown hown2 hb k0 k1 k2 hB2 HT HB0 HA0 HA1 HA2 HR' hAl
  go_wp2_with fail
  refine HT2.out.mono ?_
  rintro e w2 ⟨B, rfl, hownB, hb⟩
  have h1 := K1.out.below hb K1.out.lt
  have h2 := K2.out.below hb K2.out.lt
  have hB3 := HB2.out.trans (hb.mono HB2.out.size)
  have hA := gt_below HOWN.out hb
  have hBl := (hownB.lt B.block rfl)
  have hne : A.block ≠ B.block := by have := HAL.out; rw [hs1] at hBl; omega
  have c10 : w2.cell? ⟨w.heap.size + 1, 0, none⟩ = some (.int .i64 0) := h1.cell 0
  have c11 : w2.cell? ⟨w.heap.size + 1, 1, none⟩ = some (.slice none 0 0) := h1.cell 1
  have c12 : w2.cell? ⟨w.heap.size + 1, 2, none⟩ = some (.slice none 0 0) := h1.cell 2
  have c20 : w2.cell? ⟨w.heap.size + 1 + 1, 0, none⟩ = some (.int .i64 k) := h2.cell 0
  have c21 : w2.cell? ⟨w.heap.size + 1 + 1, 1, none⟩ = some (.slice (some A) n n) := h2.cell 1
  have c22 : w2.cell? ⟨w.heap.size + 1 + 1, 2, none⟩ = some (.slice none 0 0) := h2.cell 2
  have f10 := h1.frozen 0
  have f11 := h1.frozen 1
  have f12 := h1.frozen 2
  have f22 := h2.frozen 2
  have l1 := h1.lt
  have l2 := h2.lt
  have na1 := own_blk_ne hA h1 (by decide)
  have na2 := own_blk_ne hA h2 (by decide)
  have nb1 := own_blk_ne hownB h1 (by decide)
  have nb2 := own_blk_ne hownB h2 (by decide)
  have HOA := Lib.hid (gt_down (base' := w.heap.size) (ownsRow_setCell_other (ownsRow_setCell_other (ownsRow_setCell_other (ownsRow_setCell_other hA na2 (.slice (some B) m m) (a := ⟨w.heap.size + 1 + 1, 2, none⟩)) na1 (.int .i64 k) (a := ⟨w.heap.size + 1, 0, none⟩)) na1 (.slice (some A) n n) (a := ⟨w.heap.size + 1, 1, none⟩)) na1 (.slice (some B) m m) (a := ⟨w.heap.size + 1, 2, none⟩)) (by omega))
  have HOB := Lib.hid (gt_down (base' := w.heap.size) (ownsRow_setCell_other (ownsRow_setCell_other (ownsRow_setCell_other (ownsRow_setCell_other hownB nb2 (.slice (some B) m m) (a := ⟨w.heap.size + 1 + 1, 2, none⟩)) nb1 (.int .i64 k) (a := ⟨w.heap.size + 1, 0, none⟩)) nb1 (.slice (some A) n n) (a := ⟨w.heap.size + 1, 1, none⟩)) nb1 (.slice (some B) m m) (a := ⟨w.heap.size + 1, 2, none⟩)) (by omega))
  have HBF := Lib.hid ((((hB3.setCell (p := ⟨w.heap.size + 1 + 1, 2, none⟩) (by simp; omega) (.slice (some B) m m)).setCell (p := ⟨w.heap.size + 1, 0, none⟩) (by simp) (.int .i64 k)).setCell (p := ⟨w.heap.size + 1, 1, none⟩) (by simp) (.slice (some A) n n)).setCell (p := ⟨w.heap.size + 1, 2, none⟩) (by simp) (.slice (some B) m m))
  have HNE := Lib.hid hne
  clear h1 h2 hB3 hA hownB hb na1 na2 nb1 nb2 hne hBl HT2 HOWN K0 K1 K2 HB2 HAL b2 d1 e1
  go_wp2
  refine bodyPost_ret (v := .agg #[.int .i64 k, .slice (some A) n n, .slice (some B) m m]) (by simp [results, Tryd.results17, go_sem, c10, c11, c12]) rfl ⟨A, B, rfl, HOA.out, HOB.out, HNE.out, HBF.out⟩
theorem szIntS_any (A : Option Addr) (n c : Nat) (left : Int) (w : World) (h0 : 0 ≤ left) (h1 : left ≤ 1048576) (hn : n ≤ 9223372036854775807) :
    Calls Tryd.prog 36 #[.slice A n c, .int .i64 left] w fun e w' => e = .returned (.int .i64 (if left - n < 0 then -1 else left - n)) ∧ w = w' := by
  by_cases hc : left - n < 0
  · have HC : Hid ((if left - (n : Int) < 0 then (-1 : Int) else left - n) = -1) := if_pos hc
    go_enter Tryd.func36, Tryd.ntmps36
    go_wp2
    go_ret
    exact ⟨by first | rw [HC.out]; rfl | rfl, rfl⟩
  · have HC : Hid ((if left - (n : Int) < 0 then (-1 : Int) else left - n) = left - n) := if_neg hc
    go_enter Tryd.func36, Tryd.ntmps36
    go_wp2
    go_ret
    exact ⟨by first | rw [HC.out]; rfl | rfl, rfl⟩
theorem szGraph_any (k : Int) (a b : Option Addr) (n m c d : Nat) (left : Int) (w : World) (h0 : 0 ≤ left) (h1 : left ≤ 1048576) (hn : n ≤ maxLen) (hm : m ≤ maxLen) :
    Calls Tryd.prog 15 #[.agg #[.int .i64 k, .slice a n c, .slice b m d], .int .i64 left] w fun e w' => ∃ r : Int, e = .returned (.int .i64 r) ∧ -1 ≤ r ∧ r ≤ left ∧ (0 ≤ r → (n : Int) ≤ left ∧ (m : Int) ≤ left) ∧ Below w.heap.size w w' := by
  have hB0 : Below w.heap.size w (w.alloc (.cells #[.int .i64 k, .slice a n c, .slice b m d] 34)) := (Below.refl _ w).alloc (Nat.le_refl _) _
  have HB0 := Lib.hid hB0
  unfold maxLen at hn hm
  have HT := Lib.hid (szIntS_any a n c left (w.alloc (.cells #[.int .i64 k, .slice a n c, .slice b m d] 34)) h0 h1 (by omega))
  clear hB0
  go_enter Tryd.func15, Tryd.ntmps15
  go_wp2_with fail
  refine HT.out.mono ?_
  by_cases hc : left - (n : Int) < 0
  · rw [if_pos hc]
    rintro e w1 ⟨rfl, rfl⟩
    clear HT
    go_wp2
    go_ret
    exact ⟨-1, rfl, by omega, by omega, fun h => by omega, HB0.out⟩
  · rw [if_neg hc]
    rintro e w1 ⟨rfl, rfl⟩
    have HT2 := Lib.hid (szIntS_any b m d (left - n) (w.alloc (.cells #[.int .i64 k, .slice a n c, .slice b m d] 34)) (by omega) (by omega) (by omega))
    clear HT
    go_wp2_with fail
    refine HT2.out.mono ?_
    by_cases hc2 : left - (n : Int) - (m : Int) < 0
    · rw [if_pos hc2]
      rintro e w2 ⟨rfl, rfl⟩
      clear HT2
      go_wp2
      go_ret
      exact ⟨-1, rfl, by omega, by omega, fun h => by omega, HB0.out⟩
    · rw [if_neg hc2]
      rintro e w2 ⟨rfl, rfl⟩
      clear HT2
      go_wp2
      go_ret
      exact ⟨left - n - m, rfl, by omega, by omega, fun _ => by omega, HB0.out⟩
set_option maxHeartbeats 1000000 in
theorem eqGraph_any (k l : Int) (a b a' b' : Option Addr) (n m c d n' m' c' d' : Nat) (zs ys zs' ys' : List Int) (w : World) (h : RI w a n zs) (h' : RI w b m ys) (g : RI w a' n' zs') (g' : RI w b' m' ys') (hn : n ≤ 1048576) (hm : m ≤ 1048576) :
    Calls Tryd.prog 10 #[.agg #[.int .i64 k, .slice a n c, .slice b m d], .agg #[.int .i64 l, .slice a' n' c', .slice b' m' d']] w fun e w' => e = .returned (.bool (decide (k = l) && (decide (zs = zs') && decide (ys = ys')))) ∧ Below w.heap.size w w' := by
  have hB0 : Below w.heap.size w ((w.alloc (.cells #[.int .i64 k, .slice a n c, .slice b m d] 26)).alloc (.cells #[.int .i64 l, .slice a' n' c', .slice b' m' d'] 26)) := ((Below.refl _ w).alloc (Nat.le_refl _) _).alloc (by simp) _
  have hA0 : Blk ((w.alloc (.cells #[.int .i64 k, .slice a n c, .slice b m d] 26)).alloc (.cells #[.int .i64 l, .slice a' n' c', .slice b' m' d'] 26)) w.heap.size 26 #[.int .i64 k, .slice a n c, .slice b m d] := (Blk.new w _ _).alloc _
  have hA1 : Blk ((w.alloc (.cells #[.int .i64 k, .slice a n c, .slice b m d] 26)).alloc (.cells #[.int .i64 l, .slice a' n' c', .slice b' m' d'] 26)) (w.heap.size + 1) 26 #[.int .i64 l, .slice a' n' c', .slice b' m' d'] := by
    have := Blk.new (w.alloc (.cells #[.int .i64 k, .slice a n c, .slice b m d] 26)) 26 #[.int .i64 l, .slice a' n' c', .slice b' m' d']
    rwa [World.size_alloc] at this
  have hsz : ((w.alloc (.cells #[.int .i64 k, .slice a n c, .slice b m d] 26)).alloc (.cells #[.int .i64 l, .slice a' n' c', .slice b' m' d'] 26)).heap.size = w.heap.size + 1 + 1 := by simp
  have hT := eqIntS_any a a' n n' c c' zs zs' _ (h.below hB0) (g.below hB0) hn
  unfold EqPost at hT
  rw [hsz] at hT
  have HT := Lib.hid hT
  have HB0 := Lib.hid hB0
  have HA0 := Lib.hid hA0
  have HA1 := Lib.hid hA1
  have HU : Hid (∀ W : World, Below w.heap.size w W → Calls Tryd.prog 32 #[.slice b m d, .slice b' m' d'] W (EqPost ys ys' W)) := fun W hW => eqIntS_any b b' m m' d d' ys ys' W (h'.below hW) (g'.below hW) hm
  unfold EqPost at HU
  clear hT hB0 hA0 hA1 hsz h h' g g'
  by_cases hkl : k = l
  · subst hkl
    have HKK : Hid (decide (k = k) = true) := decide_eq_true rfl
    have hbb : (k != k) = false := by simp
    rw [HKK.out, Bool.true_and]
    clear HKK
    generalize decide (zs = zs') = q at *
    generalize decide (ys = ys') = r at *
    go_enter Tryd.func10, Tryd.ntmps10
    go_wp2_with fail
    refine HT.out.mono ?_
    rintro e w1 ⟨rfl, hb⟩
    have h0 := HA0.out.below hb (by omega)
    have h1 := HA1.out.below hb (by omega)
    have hB1 := HB0.out.trans (hb.mono (by omega))
    have c0 : w1.cell? ⟨w.heap.size, 2, none⟩ = some (.slice b m d) := h0.cell 2
    have c1 : w1.cell? ⟨w.heap.size + 1, 2, none⟩ = some (.slice b' m' d') := h1.cell 2
    have HB1 := Lib.hid hB1
    have HU1 := Lib.hid (HU.out w1 hB1)
    clear h0 h1 hb hB1 HT HB0 HA0 HA1 HU
    cases q with
    | false =>
      go_wp2
      go_ret
      exact ⟨rfl, HB1.out⟩
    | true =>
      go_wp2_with fail
      refine HU1.out.mono ?_
      rintro e w2 ⟨rfl, hb⟩
      have HB2 := Lib.hid (HB1.out.trans (hb.mono HB1.out.size))
      clear hb HU1 HB1
      cases r with
      | false =>
        go_wp2
        go_ret
        exact ⟨rfl, HB2.out⟩
      | true =>
        go_wp2
        go_ret
        exact ⟨rfl, HB2.out⟩
  · have hbb : (k != l) = true := by rw [bne_iff_ne]; exact hkl
    rw [decide_eq_false hkl, Bool.false_and]
    have hkn := hkl
    clear hkl hkn
    go_enter Tryd.func10, Tryd.ntmps10
    go_wp2
    go_ret
    exact ⟨rfl, HB0.out⟩
end Go.Proofs.YthliifgjolgmgaaDoor
