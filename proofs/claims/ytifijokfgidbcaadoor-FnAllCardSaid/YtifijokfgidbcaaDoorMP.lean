/-
  IAll IAllB.
-/
import Derived.Test.YtifijokfgidbcaaDoorME
import Derived.Test.YtifijokfgidbcaaDoorMH
import Derived.Test.YtifijokfgidbcaaDoorMV
namespace Go.Proofs.YtifijokfgidbcaaDoor
set_option maxRecDepth 100000
set_option linter.unusedVariables false
set_option linter.unusedSimpArgs false
set_option linter.unusedSectionVars false

/-! impl: all charts of a few points. -/
section
open Go.RowKit

/-- which points a list moves to -/
def imgL (n : Nat) (L : List Int) : Nat := domL (mv (turnL n (mv (ofL L) n)) n)
def extT (n p : Nat) (L : List Int) (t : Nat) : List (List Int) := L :: ((List.range t).filter (fun i => !(imgL n L).testBit i)).map (fun (i : Nat) => L.set p (i : Int))
theorem extT_yes {n p t : Nat} {L : List Int} (h : (imgL n L).testBit t = true) : extT n p L (t + 1) = extT n p L t := by
  unfold extT; rw [List.range_succ, List.filter_append]; simp [h]
theorem extT_no {n p t : Nat} {L : List Int} (h : (imgL n L).testBit t = false) : extT n p L (t + 1) = extT n p L t ++ [L.set p (t : Int)] := by
  unfold extT; rw [List.range_succ, List.filter_append]; simp [h]
theorem extT_le (n p : Nat) (L : List Int) (t : Nat) : (extT n p L t).length ≤ t + 1 := by
  unfold extT
  have := List.length_filter_le (fun i => !(imgL n L).testBit i) (List.range t)
  simp at this ⊢; omega
theorem ofL_put {L : List Int} {p : Nat} (hp : p < L.length) (z : Int) : ofL (L.set p z) = fun j => if j = p then z else ofL L j := by
  funext j
  unfold ofL
  by_cases e : j = p
  · subst e; simp [hp]
  · rw [List.getElem?_set_ne (by omega), if_neg e]
theorem cwc_lit {n : Nat} {Ls Ms : List (List Int)} {L : List Int} {p : Nat} {z : Int} (hp : p < L.length) (h : Ms = Ls ++ [L.set p z]) : cwc n Ms = cwc n Ls ++ c7 n (fun j => if j = p then z else ofL L j) := by
  rw [h, cwc_append, ← ofL_put hp]; unfold cwc; simp
set_option maxHeartbeats 1000000 in
theorem ext0_any (n : Nat) (hn3 : n ≤ 3) (hp : 0 < n) (L : List Int) (hL : L.length = n) (hT : Ok n (ofL L)) (w : World) :
    Calls Tryd.prog 21 #[.agg #[.int .i64 ((n : Int)), .int .i64 (ofL L 0), .int .i64 (ofL L 1), .int .i64 (ofL L 2), .int .i64 (ofL L 3), .int .i64 (ofL L 4), .int .i64 (ofL L 5)], .int .i64 0] w fun e w' => ∃ v, e = .returned v ∧ w'.ownsRow w.heap.size 42 7 v (extT n 0 L n).length (cwc n (extT n 0 L n)) ∧ Below w.heap.size w w' := by
  obtain ⟨i1, hj, hj0, hj1, hj2⟩ := info_parts info_chart7
  have hn : n ≤ 6 := by omega
  have HLN := Lib.hid hL
  have HOK := Lib.hid hT
  clear hL hT
  have hLIT : ((w.alloc (.cells #[.int .i64 ((n : Int)), .int .i64 (ofL L 0), .int .i64 (ofL L 1), .int .i64 (ofL L 2), .int .i64 (ofL L 3), .int .i64 (ofL L 4), .int .i64 (ofL L 5)] 42)).alloc (.cells #[.int .i64 ((n : Int)), .int .i64 (ofL L 0), .int .i64 (ofL L 1), .int .i64 (ofL L 2), .int .i64 (ofL L 3), .int .i64 (ofL L 4), .int .i64 (ofL L 5)] 42)).ownsRow (w.heap.size + 1) 42 7 (.slice (some ⟨w.heap.size + 1, 0, none⟩) 1 1) 1 (c7 n (ofL L)) := by
    have := World.ownsRow_lit (base := w.heap.size + 1) (e := 42) (size := 7) (w.alloc (.cells #[.int .i64 ((n : Int)), .int .i64 (ofL L 0), .int .i64 (ofL L 1), .int .i64 (ofL L 2), .int .i64 (ofL L 3), .int .i64 (ofL L 4), .int .i64 (ofL L 5)] 42)) #[.int .i64 ((n : Int)), .int .i64 (ofL L 0), .int .i64 (ofL L 1), .int .i64 (ofL L 2), .int .i64 (ofL L 3), .int .i64 (ofL L 4), .int .i64 (ofL L 5)] 1 (by simp) (by simp [maxLen]) rfl
    rw [World.size_alloc] at this
    exact this
  have hC0 := (Cb.new w (n : Int) (ofL L)).alloc (.cells #[.int .i64 ((n : Int)), .int .i64 (ofL L 0), .int .i64 (ofL L 1), .int .i64 (ofL L 2), .int .i64 (ofL L 3), .int .i64 (ofL L 4), .int .i64 (ofL L 5)] 42)
  obtain ⟨a0, a1, a2, a3, a4, a5, a6⟩ := (Cb.new w (n : Int) (ofL L)).all
  obtain ⟨b0, b1, b2, b3, b4, b5, b6⟩ := hC0.all
  have hB0 : Below w.heap.size w ((w.alloc (.cells #[.int .i64 ((n : Int)), .int .i64 (ofL L 0), .int .i64 (ofL L 1), .int .i64 (ofL L 2), .int .i64 (ofL L 3), .int .i64 (ofL L 4), .int .i64 (ofL L 5)] 42)).alloc (.cells #[.int .i64 ((n : Int)), .int .i64 (ofL L 0), .int .i64 (ofL L 1), .int .i64 (ofL L 2), .int .i64 (ofL L 3), .int .i64 (ofL L 4), .int .i64 (ofL L 5)] 42)) := ((Below.refl _ w).alloc (Nat.le_refl _) _).alloc (by simp) _
  go_enter Tryd.func21, Tryd.ntmps21
  go_wp2_with fail
  refine (image_any n hn (ofL L) HOK.out _).mono ?_
  rintro e w1 ⟨rfl, hb⟩
  have hrow := own_below hLIT (hb.mono (Nat.le_refl _))
  have hC1 := hC0.below hb (by simp; omega)
  have hB1 := hB0.trans (hb.mono (by simp; omega))
  have hM : imgL n L < 64 := domL_lt _
  have HM : Hid (domL (mv (turnL n (mv (ofL L) n)) n) = imgL n L) := rfl
  rw [HM.out]
  generalize hMd : imgL n L = M at hM
  have HMD := Lib.hid hMd
  clear hMd HM hC0 hLIT hB0 hb a0 a1 a2 a3 a4 a5 a6 b0 b1 b2 b3 b4 b5 b6
  have hd1 := hC1.head
  go_wp2
  go_loopw [5, 15] (fun v i wr => ∃ t : Nat, t ≤ n ∧ i = .int .i64 (t : Int) ∧ wr.ownsRow (w.heap.size + 1) 42 7 v (extT n 0 L t).length (cwc n (extT n 0 L t)) ∧ Cb wr w.heap.size (n : Int) (ofL L) ∧ Below w.heap.size w wr) (fun _ i _ => n - (intOf i).toNat)
  case atStart => exact ⟨0, Nat.zero_le _, rfl, hrow, hC1, hB1⟩
  case round =>
    clear hrow hC1 hB1 hd1
    obtain ⟨t, ht, rfl, hrow, hC, hB⟩ := hrel
    by_cases hlt : t < n
    · go_wp2_with fail
      refine (hasPoint_any M (t : Int) hM (by omega) (by omega) _).mono ?_
      rintro e w' ⟨rfl, rfl⟩
      rw [Int.toNat_natCast]
      cases hbt : M.testBit t
      · have HE := Lib.hid (extT_no (p := 0) (by rw [HMD.out]; exact hbt))
        clear hbt
        obtain ⟨a0, a1, a2, a3, a4, a5, a6⟩ := hC.all
        have hle := extT_le n 0 L t
        have hBs := hB.size
        have p1 : (extT n 0 L t).length + 1 ≤ maxLen := by unfold maxLen; omega
        have p2 : ((extT n 0 L t).length + 1) * 56 ≤ 140737488355328 := by omega
        have HW := Lib.hid (cwc_lit (n := n) (by rw [HLN.out]; exact hp) HE.out)
        have HN : Hid ((extT n 0 L (t + 1)).length = (extT n 0 L t).length + 1) := by show _ = _; rw [HE.out]; simp
        have hClt := hC.lt
        generalize extT n 0 L t = Et at *
        generalize hEt2 : extT n 0 L (t + 1) = Et2 at *
        have HE2 := Lib.hid hEt2
        clear hEt2 HE hle
        have hrow2 := (hrow.alloc (.cells #[.int .i64 (n : Int), .int .i64 ((t : Int)), .int .i64 (ofL L 1), .int .i64 (ofL L 2), .int .i64 (ofL L 3), .int .i64 (ofL L 4), .int .i64 (ofL L 5)] 42)).alloc (.cells #[.int .i64 (n : Int), .int .i64 ((t : Int)), .int .i64 (ofL L 1), .int .i64 (ofL L 2), .int .i64 (ofL L 3), .int .i64 (ofL L 4), .int .i64 (ofL L 5)] 42)
        have hC2 := (hC.alloc (.cells #[.int .i64 (n : Int), .int .i64 ((t : Int)), .int .i64 (ofL L 1), .int .i64 (ofL L 2), .int .i64 (ofL L 3), .int .i64 (ofL L 4), .int .i64 (ofL L 5)] 42)).alloc (.cells #[.int .i64 (n : Int), .int .i64 ((t : Int)), .int .i64 (ofL L 1), .int .i64 (ofL L 2), .int .i64 (ofL L 3), .int .i64 (ofL L 4), .int .i64 (ofL L 5)] 42)
        have hB2 := (hB.alloc hBs (.cells #[.int .i64 (n : Int), .int .i64 ((t : Int)), .int .i64 (ofL L 1), .int .i64 (ofL L 2), .int .i64 (ofL L 3), .int .i64 (ofL L 4), .int .i64 (ofL L 5)] 42)).alloc (by simp; omega) (.cells #[.int .i64 (n : Int), .int .i64 ((t : Int)), .int .i64 (ofL L 1), .int .i64 (ofL L 2), .int .i64 (ofL L 3), .int .i64 (ofL L 4), .int .i64 (ofL L 5)] 42)
        have hcells := cell_7_lit (wr.alloc (.cells #[.int .i64 (n : Int), .int .i64 ((t : Int)), .int .i64 (ofL L 1), .int .i64 (ofL L 2), .int .i64 (ofL L 3), .int .i64 (ofL L 4), .int .i64 (ofL L 5)] 42)) n (t : Int) (ofL L 1) (ofL L 2) (ofL L 3) (ofL L 4) (ofL L 5)
        rw [World.size_alloc] at hcells
        have p3 : w.heap.size + 1 ≤ ((wr.alloc (.cells #[.int .i64 (n : Int), .int .i64 ((t : Int)), .int .i64 (ofL L 1), .int .i64 (ofL L 2), .int .i64 (ofL L 3), .int .i64 (ofL L 4), .int .i64 (ofL L 5)] 42)).alloc (.cells #[.int .i64 (n : Int), .int .i64 ((t : Int)), .int .i64 (ofL L 1), .int .i64 (ofL L 2), .int .i64 (ofL L 3), .int .i64 (ofL L 4), .int .i64 (ofL L 5)] 42)).heap.size := by simp; omega
        clear hrow hC hB
        go_wp2_with (at_builtin; refine wpList_append_own _ rfl _ _ 38 rfl (w.heap.size + 1) 42 i1 (.agg #[.int .i64 ((0 : Int)), .int .i64 ((fun _ => (0 : Int)) 0), .int .i64 ((fun _ => (0 : Int)) 1), .int .i64 ((fun _ => (0 : Int)) 2), .int .i64 ((fun _ => (0 : Int)) 3), .int .i64 ((fun _ => (0 : Int)) 4), .int .i64 ((fun _ => (0 : Int)) 5)]) 7 56 Tryd.underlying38 hj hj0 hj1 hj2 rfl (by decide) _ _ _ rfl hrow2 ⟨wr.heap.size + 1, 0, none⟩ 1 1 [.int .i64 (n : Int), .int .i64 ((t : Int)), .int .i64 (ofL L 1), .int .i64 (ofL L 2), .int .i64 (ofL L 3), .int .i64 (ofL L 4), .int .i64 (ofL L 5)] rfl rfl hcells (by simp [Value.oneCell']) p1 p2 p3 ?_; intro v' w4 hown' hgrow _)
        go_roundw
        case rel => exact ⟨t + 1, by omega, by go_num, by rw [HE2.out, HN.out, HW.out]; exact hown', World.rowIs.of_block hC2 (hgrow.block w.heap.size (by simp; omega) (fun e => by have := (hrow2.lt _ e.symm).1; omega)), hB2.grown hgrow (by omega) (fun g e => by have := (hrow2.lt g e).1; omega)⟩
        case measure => simp [intOf]; omega
      · have HE := Lib.hid (extT_yes (p := 0) (by rw [HMD.out]; exact hbt))
        clear hbt
        go_wp2
        go_roundw
        case rel => exact ⟨t + 1, by omega, by go_num, by rw [HE.out]; exact hrow, hC, hB⟩
        case measure => simp [intOf]; omega
    · obtain rfl : t = n := by omega
      go_wp2
      go_ret
      exact ⟨_, rfl, own_base hrow (by omega), hB⟩
set_option maxHeartbeats 1000000 in
theorem ext1_any (n : Nat) (hn3 : n ≤ 3) (hp : 1 < n) (L : List Int) (hL : L.length = n) (hT : Ok n (ofL L)) (w : World) :
    Calls Tryd.prog 21 #[.agg #[.int .i64 ((n : Int)), .int .i64 (ofL L 0), .int .i64 (ofL L 1), .int .i64 (ofL L 2), .int .i64 (ofL L 3), .int .i64 (ofL L 4), .int .i64 (ofL L 5)], .int .i64 1] w fun e w' => ∃ v, e = .returned v ∧ w'.ownsRow w.heap.size 42 7 v (extT n 1 L n).length (cwc n (extT n 1 L n)) ∧ Below w.heap.size w w' := by
  obtain ⟨i1, hj, hj0, hj1, hj2⟩ := info_parts info_chart7
  have hn : n ≤ 6 := by omega
  have HLN := Lib.hid hL
  have HOK := Lib.hid hT
  clear hL hT
  have hLIT : ((w.alloc (.cells #[.int .i64 ((n : Int)), .int .i64 (ofL L 0), .int .i64 (ofL L 1), .int .i64 (ofL L 2), .int .i64 (ofL L 3), .int .i64 (ofL L 4), .int .i64 (ofL L 5)] 42)).alloc (.cells #[.int .i64 ((n : Int)), .int .i64 (ofL L 0), .int .i64 (ofL L 1), .int .i64 (ofL L 2), .int .i64 (ofL L 3), .int .i64 (ofL L 4), .int .i64 (ofL L 5)] 42)).ownsRow (w.heap.size + 1) 42 7 (.slice (some ⟨w.heap.size + 1, 0, none⟩) 1 1) 1 (c7 n (ofL L)) := by
    have := World.ownsRow_lit (base := w.heap.size + 1) (e := 42) (size := 7) (w.alloc (.cells #[.int .i64 ((n : Int)), .int .i64 (ofL L 0), .int .i64 (ofL L 1), .int .i64 (ofL L 2), .int .i64 (ofL L 3), .int .i64 (ofL L 4), .int .i64 (ofL L 5)] 42)) #[.int .i64 ((n : Int)), .int .i64 (ofL L 0), .int .i64 (ofL L 1), .int .i64 (ofL L 2), .int .i64 (ofL L 3), .int .i64 (ofL L 4), .int .i64 (ofL L 5)] 1 (by simp) (by simp [maxLen]) rfl
    rw [World.size_alloc] at this
    exact this
  have hC0 := (Cb.new w (n : Int) (ofL L)).alloc (.cells #[.int .i64 ((n : Int)), .int .i64 (ofL L 0), .int .i64 (ofL L 1), .int .i64 (ofL L 2), .int .i64 (ofL L 3), .int .i64 (ofL L 4), .int .i64 (ofL L 5)] 42)
  obtain ⟨a0, a1, a2, a3, a4, a5, a6⟩ := (Cb.new w (n : Int) (ofL L)).all
  obtain ⟨b0, b1, b2, b3, b4, b5, b6⟩ := hC0.all
  have hB0 : Below w.heap.size w ((w.alloc (.cells #[.int .i64 ((n : Int)), .int .i64 (ofL L 0), .int .i64 (ofL L 1), .int .i64 (ofL L 2), .int .i64 (ofL L 3), .int .i64 (ofL L 4), .int .i64 (ofL L 5)] 42)).alloc (.cells #[.int .i64 ((n : Int)), .int .i64 (ofL L 0), .int .i64 (ofL L 1), .int .i64 (ofL L 2), .int .i64 (ofL L 3), .int .i64 (ofL L 4), .int .i64 (ofL L 5)] 42)) := ((Below.refl _ w).alloc (Nat.le_refl _) _).alloc (by simp) _
  go_enter Tryd.func21, Tryd.ntmps21
  go_wp2_with fail
  refine (image_any n hn (ofL L) HOK.out _).mono ?_
  rintro e w1 ⟨rfl, hb⟩
  have hrow := own_below hLIT (hb.mono (Nat.le_refl _))
  have hC1 := hC0.below hb (by simp; omega)
  have hB1 := hB0.trans (hb.mono (by simp; omega))
  have hM : imgL n L < 64 := domL_lt _
  have HM : Hid (domL (mv (turnL n (mv (ofL L) n)) n) = imgL n L) := rfl
  rw [HM.out]
  generalize hMd : imgL n L = M at hM
  have HMD := Lib.hid hMd
  clear hMd HM hC0 hLIT hB0 hb a0 a1 a2 a3 a4 a5 a6 b0 b1 b2 b3 b4 b5 b6
  have hd1 := hC1.head
  go_wp2
  go_loopw [5, 15] (fun v i wr => ∃ t : Nat, t ≤ n ∧ i = .int .i64 (t : Int) ∧ wr.ownsRow (w.heap.size + 1) 42 7 v (extT n 1 L t).length (cwc n (extT n 1 L t)) ∧ Cb wr w.heap.size (n : Int) (ofL L) ∧ Below w.heap.size w wr) (fun _ i _ => n - (intOf i).toNat)
  case atStart => exact ⟨0, Nat.zero_le _, rfl, hrow, hC1, hB1⟩
  case round =>
    clear hrow hC1 hB1 hd1
    obtain ⟨t, ht, rfl, hrow, hC, hB⟩ := hrel
    by_cases hlt : t < n
    · go_wp2_with fail
      refine (hasPoint_any M (t : Int) hM (by omega) (by omega) _).mono ?_
      rintro e w' ⟨rfl, rfl⟩
      rw [Int.toNat_natCast]
      cases hbt : M.testBit t
      · have HE := Lib.hid (extT_no (p := 1) (by rw [HMD.out]; exact hbt))
        clear hbt
        obtain ⟨a0, a1, a2, a3, a4, a5, a6⟩ := hC.all
        have hle := extT_le n 1 L t
        have hBs := hB.size
        have p1 : (extT n 1 L t).length + 1 ≤ maxLen := by unfold maxLen; omega
        have p2 : ((extT n 1 L t).length + 1) * 56 ≤ 140737488355328 := by omega
        have HW := Lib.hid (cwc_lit (n := n) (by rw [HLN.out]; exact hp) HE.out)
        have HN : Hid ((extT n 1 L (t + 1)).length = (extT n 1 L t).length + 1) := by show _ = _; rw [HE.out]; simp
        have hClt := hC.lt
        generalize extT n 1 L t = Et at *
        generalize hEt2 : extT n 1 L (t + 1) = Et2 at *
        have HE2 := Lib.hid hEt2
        clear hEt2 HE hle
        have hrow2 := (hrow.alloc (.cells #[.int .i64 (n : Int), .int .i64 (ofL L 0), .int .i64 ((t : Int)), .int .i64 (ofL L 2), .int .i64 (ofL L 3), .int .i64 (ofL L 4), .int .i64 (ofL L 5)] 42)).alloc (.cells #[.int .i64 (n : Int), .int .i64 (ofL L 0), .int .i64 ((t : Int)), .int .i64 (ofL L 2), .int .i64 (ofL L 3), .int .i64 (ofL L 4), .int .i64 (ofL L 5)] 42)
        have hC2 := (hC.alloc (.cells #[.int .i64 (n : Int), .int .i64 (ofL L 0), .int .i64 ((t : Int)), .int .i64 (ofL L 2), .int .i64 (ofL L 3), .int .i64 (ofL L 4), .int .i64 (ofL L 5)] 42)).alloc (.cells #[.int .i64 (n : Int), .int .i64 (ofL L 0), .int .i64 ((t : Int)), .int .i64 (ofL L 2), .int .i64 (ofL L 3), .int .i64 (ofL L 4), .int .i64 (ofL L 5)] 42)
        have hB2 := (hB.alloc hBs (.cells #[.int .i64 (n : Int), .int .i64 (ofL L 0), .int .i64 ((t : Int)), .int .i64 (ofL L 2), .int .i64 (ofL L 3), .int .i64 (ofL L 4), .int .i64 (ofL L 5)] 42)).alloc (by simp; omega) (.cells #[.int .i64 (n : Int), .int .i64 (ofL L 0), .int .i64 ((t : Int)), .int .i64 (ofL L 2), .int .i64 (ofL L 3), .int .i64 (ofL L 4), .int .i64 (ofL L 5)] 42)
        have hcells := cell_7_lit (wr.alloc (.cells #[.int .i64 (n : Int), .int .i64 (ofL L 0), .int .i64 ((t : Int)), .int .i64 (ofL L 2), .int .i64 (ofL L 3), .int .i64 (ofL L 4), .int .i64 (ofL L 5)] 42)) n (ofL L 0) (t : Int) (ofL L 2) (ofL L 3) (ofL L 4) (ofL L 5)
        rw [World.size_alloc] at hcells
        have p3 : w.heap.size + 1 ≤ ((wr.alloc (.cells #[.int .i64 (n : Int), .int .i64 (ofL L 0), .int .i64 ((t : Int)), .int .i64 (ofL L 2), .int .i64 (ofL L 3), .int .i64 (ofL L 4), .int .i64 (ofL L 5)] 42)).alloc (.cells #[.int .i64 (n : Int), .int .i64 (ofL L 0), .int .i64 ((t : Int)), .int .i64 (ofL L 2), .int .i64 (ofL L 3), .int .i64 (ofL L 4), .int .i64 (ofL L 5)] 42)).heap.size := by simp; omega
        clear hrow hC hB
        go_wp2_with (at_builtin; refine wpList_append_own _ rfl _ _ 38 rfl (w.heap.size + 1) 42 i1 (.agg #[.int .i64 ((0 : Int)), .int .i64 ((fun _ => (0 : Int)) 0), .int .i64 ((fun _ => (0 : Int)) 1), .int .i64 ((fun _ => (0 : Int)) 2), .int .i64 ((fun _ => (0 : Int)) 3), .int .i64 ((fun _ => (0 : Int)) 4), .int .i64 ((fun _ => (0 : Int)) 5)]) 7 56 Tryd.underlying38 hj hj0 hj1 hj2 rfl (by decide) _ _ _ rfl hrow2 ⟨wr.heap.size + 1, 0, none⟩ 1 1 [.int .i64 (n : Int), .int .i64 (ofL L 0), .int .i64 ((t : Int)), .int .i64 (ofL L 2), .int .i64 (ofL L 3), .int .i64 (ofL L 4), .int .i64 (ofL L 5)] rfl rfl hcells (by simp [Value.oneCell']) p1 p2 p3 ?_; intro v' w4 hown' hgrow _)
        go_roundw
        case rel => exact ⟨t + 1, by omega, by go_num, by rw [HE2.out, HN.out, HW.out]; exact hown', World.rowIs.of_block hC2 (hgrow.block w.heap.size (by simp; omega) (fun e => by have := (hrow2.lt _ e.symm).1; omega)), hB2.grown hgrow (by omega) (fun g e => by have := (hrow2.lt g e).1; omega)⟩
        case measure => simp [intOf]; omega
      · have HE := Lib.hid (extT_yes (p := 1) (by rw [HMD.out]; exact hbt))
        clear hbt
        go_wp2
        go_roundw
        case rel => exact ⟨t + 1, by omega, by go_num, by rw [HE.out]; exact hrow, hC, hB⟩
        case measure => simp [intOf]; omega
    · obtain rfl : t = n := by omega
      go_wp2
      go_ret
      exact ⟨_, rfl, own_base hrow (by omega), hB⟩
set_option maxHeartbeats 1000000 in
theorem ext2_any (n : Nat) (hn3 : n ≤ 3) (hp : 2 < n) (L : List Int) (hL : L.length = n) (hT : Ok n (ofL L)) (w : World) :
    Calls Tryd.prog 21 #[.agg #[.int .i64 ((n : Int)), .int .i64 (ofL L 0), .int .i64 (ofL L 1), .int .i64 (ofL L 2), .int .i64 (ofL L 3), .int .i64 (ofL L 4), .int .i64 (ofL L 5)], .int .i64 2] w fun e w' => ∃ v, e = .returned v ∧ w'.ownsRow w.heap.size 42 7 v (extT n 2 L n).length (cwc n (extT n 2 L n)) ∧ Below w.heap.size w w' := by
  obtain ⟨i1, hj, hj0, hj1, hj2⟩ := info_parts info_chart7
  have hn : n ≤ 6 := by omega
  have HLN := Lib.hid hL
  have HOK := Lib.hid hT
  clear hL hT
  have hLIT : ((w.alloc (.cells #[.int .i64 ((n : Int)), .int .i64 (ofL L 0), .int .i64 (ofL L 1), .int .i64 (ofL L 2), .int .i64 (ofL L 3), .int .i64 (ofL L 4), .int .i64 (ofL L 5)] 42)).alloc (.cells #[.int .i64 ((n : Int)), .int .i64 (ofL L 0), .int .i64 (ofL L 1), .int .i64 (ofL L 2), .int .i64 (ofL L 3), .int .i64 (ofL L 4), .int .i64 (ofL L 5)] 42)).ownsRow (w.heap.size + 1) 42 7 (.slice (some ⟨w.heap.size + 1, 0, none⟩) 1 1) 1 (c7 n (ofL L)) := by
    have := World.ownsRow_lit (base := w.heap.size + 1) (e := 42) (size := 7) (w.alloc (.cells #[.int .i64 ((n : Int)), .int .i64 (ofL L 0), .int .i64 (ofL L 1), .int .i64 (ofL L 2), .int .i64 (ofL L 3), .int .i64 (ofL L 4), .int .i64 (ofL L 5)] 42)) #[.int .i64 ((n : Int)), .int .i64 (ofL L 0), .int .i64 (ofL L 1), .int .i64 (ofL L 2), .int .i64 (ofL L 3), .int .i64 (ofL L 4), .int .i64 (ofL L 5)] 1 (by simp) (by simp [maxLen]) rfl
    rw [World.size_alloc] at this
    exact this
  have hC0 := (Cb.new w (n : Int) (ofL L)).alloc (.cells #[.int .i64 ((n : Int)), .int .i64 (ofL L 0), .int .i64 (ofL L 1), .int .i64 (ofL L 2), .int .i64 (ofL L 3), .int .i64 (ofL L 4), .int .i64 (ofL L 5)] 42)
  obtain ⟨a0, a1, a2, a3, a4, a5, a6⟩ := (Cb.new w (n : Int) (ofL L)).all
  obtain ⟨b0, b1, b2, b3, b4, b5, b6⟩ := hC0.all
  have hB0 : Below w.heap.size w ((w.alloc (.cells #[.int .i64 ((n : Int)), .int .i64 (ofL L 0), .int .i64 (ofL L 1), .int .i64 (ofL L 2), .int .i64 (ofL L 3), .int .i64 (ofL L 4), .int .i64 (ofL L 5)] 42)).alloc (.cells #[.int .i64 ((n : Int)), .int .i64 (ofL L 0), .int .i64 (ofL L 1), .int .i64 (ofL L 2), .int .i64 (ofL L 3), .int .i64 (ofL L 4), .int .i64 (ofL L 5)] 42)) := ((Below.refl _ w).alloc (Nat.le_refl _) _).alloc (by simp) _
  go_enter Tryd.func21, Tryd.ntmps21
  go_wp2_with fail
  refine (image_any n hn (ofL L) HOK.out _).mono ?_
  rintro e w1 ⟨rfl, hb⟩
  have hrow := own_below hLIT (hb.mono (Nat.le_refl _))
  have hC1 := hC0.below hb (by simp; omega)
  have hB1 := hB0.trans (hb.mono (by simp; omega))
  have hM : imgL n L < 64 := domL_lt _
  have HM : Hid (domL (mv (turnL n (mv (ofL L) n)) n) = imgL n L) := rfl
  rw [HM.out]
  generalize hMd : imgL n L = M at hM
  have HMD := Lib.hid hMd
  clear hMd HM hC0 hLIT hB0 hb a0 a1 a2 a3 a4 a5 a6 b0 b1 b2 b3 b4 b5 b6
  have hd1 := hC1.head
  go_wp2
  go_loopw [5, 15] (fun v i wr => ∃ t : Nat, t ≤ n ∧ i = .int .i64 (t : Int) ∧ wr.ownsRow (w.heap.size + 1) 42 7 v (extT n 2 L t).length (cwc n (extT n 2 L t)) ∧ Cb wr w.heap.size (n : Int) (ofL L) ∧ Below w.heap.size w wr) (fun _ i _ => n - (intOf i).toNat)
  case atStart => exact ⟨0, Nat.zero_le _, rfl, hrow, hC1, hB1⟩
  case round =>
    clear hrow hC1 hB1 hd1
    obtain ⟨t, ht, rfl, hrow, hC, hB⟩ := hrel
    by_cases hlt : t < n
    · go_wp2_with fail
      refine (hasPoint_any M (t : Int) hM (by omega) (by omega) _).mono ?_
      rintro e w' ⟨rfl, rfl⟩
      rw [Int.toNat_natCast]
      cases hbt : M.testBit t
      · have HE := Lib.hid (extT_no (p := 2) (by rw [HMD.out]; exact hbt))
        clear hbt
        obtain ⟨a0, a1, a2, a3, a4, a5, a6⟩ := hC.all
        have hle := extT_le n 2 L t
        have hBs := hB.size
        have p1 : (extT n 2 L t).length + 1 ≤ maxLen := by unfold maxLen; omega
        have p2 : ((extT n 2 L t).length + 1) * 56 ≤ 140737488355328 := by omega
        have HW := Lib.hid (cwc_lit (n := n) (by rw [HLN.out]; exact hp) HE.out)
        have HN : Hid ((extT n 2 L (t + 1)).length = (extT n 2 L t).length + 1) := by show _ = _; rw [HE.out]; simp
        have hClt := hC.lt
        generalize extT n 2 L t = Et at *
        generalize hEt2 : extT n 2 L (t + 1) = Et2 at *
        have HE2 := Lib.hid hEt2
        clear hEt2 HE hle
        have hrow2 := (hrow.alloc (.cells #[.int .i64 (n : Int), .int .i64 (ofL L 0), .int .i64 (ofL L 1), .int .i64 ((t : Int)), .int .i64 (ofL L 3), .int .i64 (ofL L 4), .int .i64 (ofL L 5)] 42)).alloc (.cells #[.int .i64 (n : Int), .int .i64 (ofL L 0), .int .i64 (ofL L 1), .int .i64 ((t : Int)), .int .i64 (ofL L 3), .int .i64 (ofL L 4), .int .i64 (ofL L 5)] 42)
        have hC2 := (hC.alloc (.cells #[.int .i64 (n : Int), .int .i64 (ofL L 0), .int .i64 (ofL L 1), .int .i64 ((t : Int)), .int .i64 (ofL L 3), .int .i64 (ofL L 4), .int .i64 (ofL L 5)] 42)).alloc (.cells #[.int .i64 (n : Int), .int .i64 (ofL L 0), .int .i64 (ofL L 1), .int .i64 ((t : Int)), .int .i64 (ofL L 3), .int .i64 (ofL L 4), .int .i64 (ofL L 5)] 42)
        have hB2 := (hB.alloc hBs (.cells #[.int .i64 (n : Int), .int .i64 (ofL L 0), .int .i64 (ofL L 1), .int .i64 ((t : Int)), .int .i64 (ofL L 3), .int .i64 (ofL L 4), .int .i64 (ofL L 5)] 42)).alloc (by simp; omega) (.cells #[.int .i64 (n : Int), .int .i64 (ofL L 0), .int .i64 (ofL L 1), .int .i64 ((t : Int)), .int .i64 (ofL L 3), .int .i64 (ofL L 4), .int .i64 (ofL L 5)] 42)
        have hcells := cell_7_lit (wr.alloc (.cells #[.int .i64 (n : Int), .int .i64 (ofL L 0), .int .i64 (ofL L 1), .int .i64 ((t : Int)), .int .i64 (ofL L 3), .int .i64 (ofL L 4), .int .i64 (ofL L 5)] 42)) n (ofL L 0) (ofL L 1) (t : Int) (ofL L 3) (ofL L 4) (ofL L 5)
        rw [World.size_alloc] at hcells
        have p3 : w.heap.size + 1 ≤ ((wr.alloc (.cells #[.int .i64 (n : Int), .int .i64 (ofL L 0), .int .i64 (ofL L 1), .int .i64 ((t : Int)), .int .i64 (ofL L 3), .int .i64 (ofL L 4), .int .i64 (ofL L 5)] 42)).alloc (.cells #[.int .i64 (n : Int), .int .i64 (ofL L 0), .int .i64 (ofL L 1), .int .i64 ((t : Int)), .int .i64 (ofL L 3), .int .i64 (ofL L 4), .int .i64 (ofL L 5)] 42)).heap.size := by simp; omega
        clear hrow hC hB
        go_wp2_with (at_builtin; refine wpList_append_own _ rfl _ _ 38 rfl (w.heap.size + 1) 42 i1 (.agg #[.int .i64 ((0 : Int)), .int .i64 ((fun _ => (0 : Int)) 0), .int .i64 ((fun _ => (0 : Int)) 1), .int .i64 ((fun _ => (0 : Int)) 2), .int .i64 ((fun _ => (0 : Int)) 3), .int .i64 ((fun _ => (0 : Int)) 4), .int .i64 ((fun _ => (0 : Int)) 5)]) 7 56 Tryd.underlying38 hj hj0 hj1 hj2 rfl (by decide) _ _ _ rfl hrow2 ⟨wr.heap.size + 1, 0, none⟩ 1 1 [.int .i64 (n : Int), .int .i64 (ofL L 0), .int .i64 (ofL L 1), .int .i64 ((t : Int)), .int .i64 (ofL L 3), .int .i64 (ofL L 4), .int .i64 (ofL L 5)] rfl rfl hcells (by simp [Value.oneCell']) p1 p2 p3 ?_; intro v' w4 hown' hgrow _)
        go_roundw
        case rel => exact ⟨t + 1, by omega, by go_num, by rw [HE2.out, HN.out, HW.out]; exact hown', World.rowIs.of_block hC2 (hgrow.block w.heap.size (by simp; omega) (fun e => by have := (hrow2.lt _ e.symm).1; omega)), hB2.grown hgrow (by omega) (fun g e => by have := (hrow2.lt g e).1; omega)⟩
        case measure => simp [intOf]; omega
      · have HE := Lib.hid (extT_yes (p := 2) (by rw [HMD.out]; exact hbt))
        clear hbt
        go_wp2
        go_roundw
        case rel => exact ⟨t + 1, by omega, by go_num, by rw [HE.out]; exact hrow, hC, hB⟩
        case measure => simp [intOf]; omega
    · obtain rfl : t = n := by omega
      go_wp2
      go_ret
      exact ⟨_, rfl, own_base hrow (by omega), hB⟩
theorem ext_any (n p : Nat) (hn3 : n ≤ 3) (hp : p < n) (L : List Int) (hL : L.length = n) (hT : Ok n (ofL L)) (w : World) :
    Calls Tryd.prog 21 #[.agg #[.int .i64 ((n : Int)), .int .i64 (ofL L 0), .int .i64 (ofL L 1), .int .i64 (ofL L 2), .int .i64 (ofL L 3), .int .i64 (ofL L 4), .int .i64 (ofL L 5)], .int .i64 (p : Int)] w fun e w' => ∃ v, e = .returned v ∧ w'.ownsRow w.heap.size 42 7 v (extT n p L n).length (cwc n (extT n p L n)) ∧ Below w.heap.size w w' := by
  have hp3 : p = 0 ∨ p = 1 ∨ p = 2 := by omega
  rcases hp3 with rfl | rfl | rfl
  · exact ext0_any n hn3 hp L hL hT w
  · exact ext1_any n hn3 hp L hL hT w
  · exact ext2_any n hn3 hp L hL hT w
end

/-! impl: all charts of a few points, and their lists. -/
section
open Go.RowKit

def allI (n : Nat) : Nat → List (List Int)
  | 0 => [List.replicate n (-1)]
  | i + 1 => (allI n i).flatMap (fun L => extT n i L n)
def accI (n i t : Nat) : List (List Int) := ((allI n i).take t).flatMap (fun L => extT n i L n)
theorem accI_succ {n i t : Nat} {L : List Int} (h : (allI n i)[t]? = some L) : accI n i (t + 1) = accI n i t ++ extT n i L n := by
  unfold accI; rw [List.take_add_one, h, List.flatMap_append]; simp
theorem accI_all (n i : Nat) : accI n i (allI n i).length = allI n (i + 1) := by unfold accI; rw [List.take_length]; rfl
theorem allI_okB : ∀ n, n < 4 → ∀ i, i < 4 → i ≤ n → (allI n i).all (fun L => decide (L.length = n) && (List.range n).all (fun j => decide (ofL L j = -1) || (decide (0 ≤ ofL L j) && decide (ofL L j < 6)))) = true := by decide +kernel
theorem allI_ok (n : Nat) (hn : n < 4) (i : Nat) (hi : i < 4) (h : i ≤ n) : ∀ L ∈ allI n i, L.length = n ∧ ∀ j, j < n → (ofL L j = -1 ∨ (0 ≤ ofL L j ∧ ofL L j < 6)) := fun L hL => by
  have h1 := List.all_eq_true.1 (allI_okB n hn i hi h) L hL
  rw [Bool.and_eq_true, decide_eq_true_eq] at h1
  refine ⟨h1.1, fun j hj => ?_⟩
  have h2 := List.all_eq_true.1 h1.2 j (List.mem_range.2 hj)
  rw [Bool.or_eq_true, Bool.and_eq_true, decide_eq_true_eq, decide_eq_true_eq, decide_eq_true_eq] at h2
  exact h2
theorem allI_len : ∀ n, n < 4 → ∀ i, i < 4 → i ≤ n → 1 ≤ (allI n i).length ∧ (allI n i).length ≤ 34 := by decide +kernel
theorem accI_len : ∀ n, n < 4 → ∀ i, i < 4 → i < n → ∀ t, t < 35 → (accI n i t).length ≤ 34 := by decide +kernel
theorem allI_is : ∀ n, n < 4 → 1 ≤ n → allI n n = allL n n [] := by decide +kernel
theorem ofL_still (n : Nat) : ofL (List.replicate n (-1)) = fun j => if j < n then (-1 : Int) else 0 := by
  funext j
  unfold ofL
  by_cases h : j < n
  · rw [if_pos h]; simp [h]
  · rw [if_neg h]; simp [h]
set_option maxHeartbeats 1000000 in
theorem allCharts_any (n : Nat) (hn1 : 1 ≤ n) (hn3 : n ≤ 3) (w : World) :
    Calls Tryd.prog 14 #[.int .i64 (n : Int)] w fun e w' => ∃ v, e = .returned v ∧ w'.ownsRow w.heap.size 42 7 v (allI n n).length (cwc n (allI n n)) ∧ Below w.heap.size w w' := by
  obtain ⟨i1, hj, hj0, hj1, hj2⟩ := info_parts info_chart7
  go_enter Tryd.func14, Tryd.ntmps14
  go_wp2_with fail
  refine (still_any n (by omega) _).mono ?_
  rintro e w1 ⟨T, rfl, HT, hb⟩
  have hTT : T = ofL (List.replicate n (-1)) := by rw [ofL_still]; funext j; exact HT.out j
  subst hTT
  have hs1 := hb.size
  have hrow : (w1.alloc (.cells #[.int .i64 ((n : Int)), .int .i64 (ofL (List.replicate n (-1)) 0), .int .i64 (ofL (List.replicate n (-1)) 1), .int .i64 (ofL (List.replicate n (-1)) 2), .int .i64 (ofL (List.replicate n (-1)) 3), .int .i64 (ofL (List.replicate n (-1)) 4), .int .i64 (ofL (List.replicate n (-1)) 5)] 42)).ownsRow w.heap.size 42 7 (.slice (some ⟨w1.heap.size, 0, none⟩) 1 1) 1 (c7 n (ofL (List.replicate n (-1)))) :=
    World.ownsRow_lit (base := w.heap.size) (e := 42) (size := 7) w1 #[.int .i64 ((n : Int)), .int .i64 (ofL (List.replicate n (-1)) 0), .int .i64 (ofL (List.replicate n (-1)) 1), .int .i64 (ofL (List.replicate n (-1)) 2), .int .i64 (ofL (List.replicate n (-1)) 3), .int .i64 (ofL (List.replicate n (-1)) 4), .int .i64 (ofL (List.replicate n (-1)) 5)] 1 hs1 (by simp [maxLen]) rfl
  have hB := hb.alloc hs1 (.cells #[.int .i64 ((n : Int)), .int .i64 (ofL (List.replicate n (-1)) 0), .int .i64 (ofL (List.replicate n (-1)) 1), .int .i64 (ofL (List.replicate n (-1)) 2), .int .i64 (ofL (List.replicate n (-1)) 3), .int .i64 (ofL (List.replicate n (-1)) 4), .int .i64 (ofL (List.replicate n (-1)) 5)] 42)
  clear hb HT
  go_wp2
  go_loopw [3, 12] (fun v i wr => ∃ k : Nat, k ≤ n ∧ i = .int .i64 (k : Int) ∧ wr.ownsRow w.heap.size 42 7 v (allI n k).length (cwc n (allI n k)) ∧ Below w.heap.size w wr) (fun _ i _ => n - (intOf i).toNat)
  case atStart => exact ⟨0, Nat.zero_le _, rfl, hrow, hB⟩
  case round =>
    clear hrow hB hs1
    obtain ⟨k, hk, rfl, hrow, hB⟩ := hrel
    by_cases hlt : k < n
    · have HOK := Lib.hid (allI_ok n (by omega) k (by omega) (by omega))
      have hlen := allI_len n (by omega) k (by omega) (by omega)
      have HAL := Lib.hid (accI_len n (by omega) k (by omega) hlt)
      have HALL := Lib.hid (accI_all n k)
      obtain ⟨q, hq⟩ : ∃ q, (allI n k).length = q + 1 := ⟨_, (Nat.sub_add_cancel hlen.1).symm⟩
      have hrow' := hrow
      rw [hq] at hrow'
      obtain ⟨g, cp, rfl⟩ := ownsRow_succ hrow'
      have HQ := Lib.hid hq
      have hq34 : q + 1 ≤ 34 := by omega
      have hgl := (hrow.lt g rfl).2
      clear hrow' hq hlen
      go_wp2
      go_loopw [5, 17] (fun v j wq => ∃ t : Nat, t ≤ q + 1 ∧ j = .int .i64 (t : Int) ∧ wq.ownsRow wr.heap.size 42 7 v (accI n k t).length (cwc n (accI n k t)) ∧ Below wr.heap.size wr wq) (fun _ j _ => q + 1 - (intOf j).toNat)
      case atStart => exact ⟨0, by omega, rfl, World.ownsRow_nil _ _ _ _, Below.refl _ _⟩
      case round =>
        obtain ⟨t, ht, rfl, hacc, hBq⟩ := hrel
        by_cases hlq : t < q + 1
        · obtain ⟨L, hL⟩ : ∃ L, (allI n k)[t]? = some L := ⟨_, List.getElem?_eq_getElem (by rw [HQ.out]; exact hlq)⟩
          have hLo := HOK.out L (List.mem_of_getElem? hL)
          have HS := Lib.hid (accI_succ hL)
          have hmn : 1 ≤ (extT n k L n).length := by unfold extT; simp
          have hml := extT_le n k L n
          have HL1 := Lib.hid hLo.1
          have HL2 : Hid (Ok n (ofL L)) := hLo.2
          obtain ⟨c0, c1, c2, c3, c4, c5, c6⟩ := cwc_cells hrow hL
          replace c0 := (hBq.cell (p := ⟨g, _, none⟩) hgl).trans c0
          replace c1 := (hBq.cell (p := ⟨g, _, none⟩) hgl).trans c1
          replace c2 := (hBq.cell (p := ⟨g, _, none⟩) hgl).trans c2
          replace c3 := (hBq.cell (p := ⟨g, _, none⟩) hgl).trans c3
          replace c4 := (hBq.cell (p := ⟨g, _, none⟩) hgl).trans c4
          replace c5 := (hBq.cell (p := ⟨g, _, none⟩) hgl).trans c5
          replace c6 := (hBq.cell (p := ⟨g, _, none⟩) hgl).trans c6
          have hqs := hBq.size
          clear hLo hL
          go_wp2_with fail
          refine (ext_any n k hn3 hlt L HL1.out HL2.out _).mono ?_
          rintro e w3 ⟨u, rfl, hown, hb3⟩
          have hbw : Below wr.heap.size wr w3 := ((Below.refl _ wr).alloc (Nat.le_refl _) _).trans (hb3.mono (by simp))
          rw [World.size_alloc] at hown
          have hacc3 := own_below hacc hbw
          have hB3 := hBq.trans (hbw.mono hqs)
          have hs3 := hB3.size
          have hmx := HAL.out (t + 1) (by omega)
          rw [HS.out, List.length_append] at hmx
          obtain ⟨m, hm⟩ : ∃ m, (extT n k L n).length = m + 1 := ⟨_, (Nat.sub_add_cancel hmn).symm⟩
          have hsrc := hown
          rw [hm] at hsrc
          obtain ⟨g2, cp2, rfl⟩ := ownsRow_succ hsrc
          have hcl : (cwc n (extT n k L n)).length = (m + 1) * 7 := by rw [cwc_len, hm]
          have hcells := hsrc.cells rfl
          have p1 : (accI n k t).length + (m + 1) ≤ maxLen := by unfold maxLen; omega
          have p2 : ((accI n k t).length + (m + 1)) * 56 ≤ 140737488355328 := by omega
          have HM := Lib.hid hm
          have HCL := Lib.hid hcl
          clear hmn hml hown hacc hbw hb3 c0 c1 c2 c3 c4 c5 c6 hsrc hm hcl hmx
          go_wp2_with (at_builtin; refine wpList_append_own _ rfl _ _ 38 rfl _ 42 i1 (.agg #[.int .i64 ((0 : Int)), .int .i64 ((fun _ => (0 : Int)) 0), .int .i64 ((fun _ => (0 : Int)) 1), .int .i64 ((fun _ => (0 : Int)) 2), .int .i64 ((fun _ => (0 : Int)) 3), .int .i64 ((fun _ => (0 : Int)) 4), .int .i64 ((fun _ => (0 : Int)) 5)]) 7 56 Tryd.underlying38 hj hj0 hj1 hj2 rfl (by decide) _ _ _ rfl hacc3 ⟨g2, 0, none⟩ (m + 1) cp2 (cwc n (extT n k L n)) rfl HCL.out hcells (cwc_one _ _) p1 p2 hs3 ?_; intro v' w4 hown' hgrow _)
          go_roundw
          case rel => exact ⟨t + 1, by omega, by go_num, by rw [HS.out, cwc_append, List.length_append, HM.out]; exact hown', hB3.grown hgrow hs3 (fun g e => (hacc3.lt g e).1)⟩
          case measure => simp [intOf]; omega
        · obtain rfl : t = q + 1 := by omega
          have hall := HALL.out
          rw [HQ.out] at hall
          rw [hall] at hacc
          have HB2 := hB.trans (hBq.mono hB.size)
          have hacc2 := own_base hacc hB.size
          clear hall hacc hBq hrow hB
          go_wp2
          go_roundw
          case rel => exact ⟨k + 1, by omega, by go_num, hacc2, HB2⟩
          case measure => simp [intOf]; omega
    · obtain rfl : k = n := by omega
      go_wp2
      go_ret
      exact ⟨_, rfl, hrow, hB⟩

set_option maxHeartbeats 1000000 in
theorem implAll_any (n : Int) (w : World) : Calls Tryd.prog 5 #[.int .i64 n] w fun e w' => ∃ v, e = .returned (.tuple #[v, .bool (inB n 1 3)]) ∧ OSS w' w.heap.size w'.heap.size v (allCL n) ∧ Below w.heap.size w w' := by
  cases hS : inB n 1 3
  · have HL : Hid (allCL n = []) := by show _ = _; unfold allCL; rw [hS]; rfl
    have hk : n < 1 ∨ 3 < n := by have := of_decide_eq_false hS; omega
    clear hS
    rcases hk with hk | hk
    · have hd : decide (n < 1) = true := by simpa using hk
      go_enter Tryd.func5, Tryd.ntmps5
      go_wp2
      go_ret2
      exact ⟨_, rfl, by rw [HL.out]; exact OSS.nil _ _ _, Below.refl _ _⟩
    · have hd : decide (n < 1) = false := by simp; omega
      have hd2 : decide (3 < n) = true := by simpa using hk
      go_enter Tryd.func5, Tryd.ntmps5
      go_wp2
      go_ret2
      exact ⟨_, rfl, by rw [HL.out]; exact OSS.nil _ _ _, Below.refl _ _⟩
  · have hk : 1 ≤ n ∧ n ≤ 3 := of_decide_eq_true hS
    obtain ⟨N, rfl⟩ := Int.eq_ofNat_of_zero_le (show 0 ≤ n by omega)
    have hN1 : 1 ≤ N := by omega
    have hN : N ≤ 3 := by omega
    have HL : Hid (allI N N = allCL (N : Int)) := by show _ = _; rw [allI_is N (by omega) hN1]; unfold allCL; rw [hS]; rfl
    have HOK := Lib.hid (allI_ok N (by omega) N (by omega) (Nat.le_refl _))
    have hlen := allI_len N (by omega) N (by omega) (Nat.le_refl _)
    have hd : decide ((N : Int) < 1) = false := by simp; omega
    have hd2 : decide (3 < (N : Int)) = false := by simp; omega
    obtain ⟨i1, hj, hj0, hj1, hj2⟩ := info_parts info_partsS
    clear hS hk
    go_enter Tryd.func5, Tryd.ntmps5
    go_wp2_with fail
    refine (allCharts_any N hN1 hN _).mono ?_
    rintro e w2 ⟨v, rfl, hrow, hB2⟩
    generalize allI N N = Ls at *
    obtain ⟨q, hq⟩ : ∃ q, Ls.length = q + 1 := ⟨_, (Nat.sub_add_cancel hlen.1).symm⟩
    have hrow' := hrow
    rw [hq] at hrow'
    obtain ⟨g, cp, rfl⟩ := ownsRow_succ hrow'
    have HQ := Lib.hid hq
    have hq34 : q + 1 ≤ 34 := by omega
    have hgl := (hrow.lt g rfl).2
    clear hrow' hq hlen
    go_wp2
    go_loopw [4, 16] (fun v i wr => ∃ t : Nat, t ≤ q + 1 ∧ i = .int .i64 (t : Int) ∧ OSS wr w2.heap.size wr.heap.size v (Ls.take t) ∧ Below w2.heap.size w2 wr) (fun _ i _ => q + 1 - (intOf i).toNat)
    case atStart => exact ⟨0, by omega, rfl, OSS.nil _ _ _, Below.refl _ _⟩
    case round =>
      obtain ⟨t, ht, rfl, hO, hbr⟩ := hrel
      by_cases hlt : t < q + 1
      · obtain ⟨L, hL⟩ : ∃ L, Ls[t]? = some L := ⟨_, List.getElem?_eq_getElem (by rw [HQ.out]; exact hlt)⟩
        have hLo := (HOK.out L (List.mem_of_getElem? hL)).1
        have HLL := Lib.hid hLo
        have HT : Hid (Ls.take (t + 1) = Ls.take t ++ [L]) := by show _ = _; rw [List.take_add_one, hL]; rfl
        have htl : (Ls.take t).length = t := by rw [List.length_take, HQ.out]; omega
        obtain ⟨c0, c1, c2, c3, c4, c5, c6⟩ := cwc_cells hrow hL
        replace c0 := (hbr.cell (p := ⟨g, _, none⟩) hgl).trans c0
        replace c1 := (hbr.cell (p := ⟨g, _, none⟩) hgl).trans c1
        replace c2 := (hbr.cell (p := ⟨g, _, none⟩) hgl).trans c2
        replace c3 := (hbr.cell (p := ⟨g, _, none⟩) hgl).trans c3
        replace c4 := (hbr.cell (p := ⟨g, _, none⟩) hgl).trans c4
        replace c5 := (hbr.cell (p := ⟨g, _, none⟩) hgl).trans c5
        replace c6 := (hbr.cell (p := ⟨g, _, none⟩) hgl).trans c6
        have HTL := Lib.hid htl
        clear hL hLo htl
        go_wp2_with fail
        refine (list_any N (by omega) (ofL L) _).mono ?_
        rintro e w3 ⟨B, rfl, hown, hb3⟩
        have hbw : Below wr.heap.size wr w3 := ((Below.refl _ wr).alloc (Nat.le_refl _) _).trans (hb3.mono (by simp))
        rw [LT_ofL HLL.out, World.size_alloc] at hown
        have hown2 : w3.ownsRow (wr.heap.size + 1) 3 1 (.slice (some B) N N) L.length (ivs L) := by rw [HLL.out]; exact hown
        obtain ⟨vs, hrow0, hvb, hinn0⟩ := hO
        have hrow3 := own_below hrow0 hbw
        have hinn3 := (hinn0.below hbw).more (Nat.le_refl _) hbw.size
        have hu : OI w3 w2.heap.size w3.heap.size (.slice (some B) N N) L := OI.of (own_le hown2 (by have := hbr.size; omega))
        have hap : ∀ (i : Nat) (u' : Value), vs[i]? = some u' → ∀ q : Nat, u'.ownBlock = some q → (Value.slice (some B) N N).ownBlock = some q → False := fun i u' hi q e1 e2 => by
          have h1 := hinn0.lt hi e1
          have h2 := hown.lt q e2
          omega
        have hbr3 : Below w2.heap.size w2 w3 := hbr.trans (hbw.mono hbr.size)
        have p1 : (Ls.take t).length + 1 ≤ maxLen := by rw [HTL.out]; unfold maxLen; omega
        have p2 : ((Ls.take t).length + 1) * 24 ≤ 140737488355328 := by rw [HTL.out]; omega
        have p3 : ∀ o : Obj, w2.heap.size ≤ (w3.alloc o).heap.size := fun o => by have := hbr3.size; simp; omega
        clear hinn0 hrow0 hown hown2 hb3 hbw c0 c1 c2 c3 c4 c5 c6
        go_wp2_with (at_builtin; refine wpList_append_own _ rfl _ _ 24 rfl w2.heap.size 31 i1 (.slice none 0 0) 1 24 Tryd.underlying24 hj hj0 hj1 hj2 rfl (by decide) _ _ _ rfl (hrow3.alloc _) ⟨w3.heap.size, 0, none⟩ 1 1 [.slice (some B) N N] rfl rfl (cell_one_new _ _ _) (by simp [Value.oneCell']) p1 p2 (p3 _) ?_; intro v' w4 hown' hgrow _; have hO4 := OSS.app hrow3 hinn3 hu hap hown' hgrow; have hB4 := below_app hbr3 hrow3 (Nat.le_refl _) hgrow; clear hown' hgrow hrow3 hinn3 hu hap)
        exact ⟨⟨t + 1, by omega, by go_num, by rw [HT.out]; exact hO4, hB4⟩, by simp [intOf]; omega⟩
      · obtain rfl : t = q + 1 := by omega
        have HE : Hid (Ls.take (q + 1) = Ls) := List.take_of_length_le (by rw [HQ.out]; omega)
        go_wp2
        go_ret2
        exact ⟨_, rfl, by rw [← HL.out, ← HE.out]; exact hO.more hB2.size (Nat.le_refl _), hB2.trans (hbr.mono hB2.size)⟩
end

end Go.Proofs.YtifijokfgidbcaaDoor
