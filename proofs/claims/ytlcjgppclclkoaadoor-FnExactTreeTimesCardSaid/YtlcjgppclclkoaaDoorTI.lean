/-
  Ww.
-/
import Derived.Deep.RegionHeld3
import Derived.Deep.RegionLaw
import Derived.LaidEqlPtr
import Derived.Test.YtlcjgppclclkoaaDoorTH
namespace Go.Proofs.YtlcjgppclclkoaaDoor
set_option maxRecDepth 100000
set_option linter.unusedVariables false
set_option linter.unusedSimpArgs false
set_option linter.unusedSectionVars false

/-! impl.tree.walked: the closure that goes through all nodes. -/
section
open Go.RowKit

def ptO (m : List (Fin 4) → Nat) (N : List (List (Fin 4))) (u : List (Fin 4)) (c : Fin 4) : Option Addr := if stp u c ∈ N then some ⟨m (stp u c), 0, none⟩ else none
theorem ptrTo_ptO (m : List (Fin 4) → Nat) (N : List (List (Fin 4))) (u : List (Fin 4)) (c : Fin 4) : ptrTo m N u c = .pointer (ptO m N u c) := by
  unfold ptrTo ptO; split <;> rfl
/-- the node before -/
def befO (m : List (Fin 4) → Nat) : List (Fin 4) → Option Addr
  | [] => none
  | _ :: v => some ⟨m v, 0, none⟩
/-- a goal's own last step, said once: the frame is told by the first way that comes to it -/
theorem kcut {α : Type} {Q : Prop} (P : α → Prop) {F : α} (h1 : P F → Q) (h2 : P F) : Q := h1 h2
theorem fin4 : ∀ c : Fin 4, c = 0 ∨ c = 1 ∨ c = 2 ∨ c = 3 := by decide
theorem lets_cases {N : List (List (Fin 4))} {m : List (Fin 4) → Nat} (T : Tre N) {u : List (Fin 4)} (hu : u ∈ N) (c : Fin 4) :
    (ptO m N u c = none ∧ kidB N u c = false) ∨ (∃ v, ptO m N u c = some ⟨m v, 0, none⟩ ∧ befO m u = some ⟨m v, 0, none⟩ ∧ kidB N u c = false) ∨ (ptO m N u c = some ⟨m (c :: u), 0, none⟩ ∧ c :: u ∈ N ∧ kidB N u c = true ∧ (befO m u = none ∨ ∃ v, befO m u = some ⟨m v, 0, none⟩ ∧ v ∈ N ∧ c :: u ≠ v)) := by
  by_cases h : stp u c ∈ N
  · rcases stp_cases (u := u) (c := c) with e | ⟨d, v, e1, e2, e3⟩
    · refine .inr (.inr ⟨by unfold ptO; rw [if_pos h, e], by rw [← e]; exact h, kid_iff.2 ⟨e, by rw [← e]; exact h⟩, ?_⟩)
      cases u with
      | nil => exact .inl rfl
      | cons d v =>
        refine .inr ⟨v, rfl, T.cl d v hu, fun h1 => ?_⟩
        have := congrArg List.length h1
        simp at this
        omega
    · subst e1
      refine .inr (.inl ⟨v, by unfold ptO; rw [if_pos h, e3], rfl, ?_⟩)
      cases hk : kidB N (d :: v) c with
      | false => rfl
      | true =>
        have := (kid_iff.1 hk).1
        rw [e3] at this
        have := congrArg List.length this
        simp at this
        omega
  · refine .inl ⟨by unfold ptO; rw [if_neg h], ?_⟩
    cases hk : kidB N u c with
    | false => rfl
    | true =>
      have h1 := kid_iff.1 hk
      rw [h1.1] at h
      exact absurd h1.2 h
theorem strOf_snoc (c : Fin 4) (u : List (Fin 4)) : strOf (c :: u) = strOf u ++ ⟨#[ltB c]⟩ := by
  have : (strOf (c :: u)).data.toList = (strOf u ++ ⟨#[ltB c]⟩ : ByteArray).data.toList := by
    rw [strOf_list, ByteArray.data_append, Array.toList_append, strOf_list]; simp
  exact ByteArray.ext (Array.ext' this)

theorem idx_nodes (p : Fin 4 → Option Addr) (c : Fin 4) (W : World) : (Instr.index 77 (.agg #[.pointer (p 0), .pointer (p 1), .pointer (p 2), .pointer (p 3)]) (.int .i64 (c.val : Int))).run Tryd.prog W = .ok (.pointer (p c)) W := by
  rcases fin4 c with rfl | rfl | rfl | rfl <;> kernel_rfl
theorem idx_let (c : Fin 4) (W : World) : (Instr.index 9 (.string ⟨#[65, 66, 97, 98]⟩) (.int .i64 (c.val : Int))).run Tryd.prog W = .ok (.int .u8 ((ltB c).toNat : Int)) W := by
  rcases fin4 c with rfl | rfl | rfl | rfl <;> kernel_rfl
theorem sl_let (c : Fin 4) (W : World) : (Instr.slice 9 (.string ⟨#[65, 66, 97, 98]⟩) (some (.int .i64 (c.val : Int))) (some (.int .i64 ((c.val : Int) + 1))) none).run Tryd.prog W = .ok (.string ⟨#[ltB c]⟩) W := by
  rcases fin4 c with rfl | rfl | rfl | rfl <;> kernel_rfl
theorem info_node : (Tryd.prog.info? 79).map (fun i => (i.zero, i.size, i.bytes)) = some (some (.agg #[.pointer none, .pointer none, .pointer none, .pointer none]), 4, 32) := by kernel_rfl
theorem eq_nodes {W : World} {base : Nat} {N : List (List (Fin 4))} {m : List (Fin 4) → Nat} (h : Gr W base N m) {x y : List (Fin 4)} (hx : x ∈ N) (hy : y ∈ N) :
    (binOp .eql 52 (.pointer (some ⟨m x, 0, none⟩)) (.pointer (some ⟨m y, 0, none⟩))).run Tryd.prog W = .ok (.bool (decide (x = y))) W := by
  obtain ⟨i, hi, _, hs, _⟩ := info_parts info_node
  by_cases e : x = y
  · subst e
    rw [decide_eq_true rfl]
    exact run_eql_ptr_same W _ Tryd.underlying52 hi
  · rw [decide_eq_false e]
    exact run_eql_ptr_other W Tryd.underlying52 hi (by omega) (fun h' => e (h.inj x hx y hy (congrArg Addr.block h'))) (h.blk x hx) (h.blk y hy)
set_option maxHeartbeats 4000000 in
theorem walk_any (lo base Wb Tb Fb : Nat) (A : Value) (N : List (List (Fin 4))) (m : List (Fin 4) → Nat) (e : List (Fin 4)) (he : e ∈ N) (hlo : ∀ x ∈ N, m x < lo) (hNL : N.length ≤ 1000000) : ∀ (k : Nat) (u : List (Fin 4)) (bs : List (Fin 4)) (vs : List (List (Fin 4))) (en : ByteArray) (vt vw : Value) (W : World), N.length ≤ u.length + k → u ∈ N → Gr W base N m →
    Wk W lo Wb Tb Fb A (.pointer (some ⟨m e, 0, none⟩)) bs vs en vt vw → vs.length + (preF N k u).length ≤ 1000000 → bs.length + (preT N k u).length ≤ 1000000 →
    Calls Tryd.prog 78 #[.pointer (some ⟨m u, 0, none⟩), .pointer (befO m u), .string (strOf u), .pointer (some ⟨Wb, 0, none⟩), .pointer (some ⟨Tb, 0, none⟩), .pointer (some ⟨Fb, 0, none⟩)] W fun e' W' => ∃ vt' vw', e' = .returned (.tuple #[]) ∧
      Wk W' lo Wb Tb Fb A (.pointer (some ⟨m e, 0, none⟩)) (bs ++ preT N k u) (vs ++ preF N k u) (enF e (preF N k u) en) vt' vw' ∧ Below lo W W' := by
  intro k
  have HNL := Lib.hid hNL
  clear hNL
  induction k with
  | zero =>
    intro u bs vs en vt vw W hk hu hG
    have := hG.tre.len hu
    omega
  | succ k ih =>
    intro u bs vs en vt vw W hk hu hG hW hb1 hb2
    have hC := fun c => lets_cases (m := m) hG.tre hu c
    have hmu := hlo u hu
    obtain ⟨i1, hi, hz0, hz1, hz2⟩ := info_parts info_strg
    have hlw := hW.low
    have hcw1 : W.cell? ⟨Wb, 1, none⟩ = some vw := hW.wb.cell 1
    have hfw1 := hW.wb.frozen 1
    have hwl := hW.wb.lt
    have hwd1 := (hW.alloc (.cells #[.string (strOf u)] 9)).wd
    have hbw1 : vs.length + 1 ≤ maxLen := by have := preL_le N k u 0; unfold maxLen; omega
    have hbw2 : (vs.length + 1) * 16 ≤ 140737488355328 := by have := preL_le N k u 0; omega
    have hbw3 : lo ≤ (W.alloc (.cells #[.string (strOf u)] 9)).heap.size := by simp; omega
    have HW : Hid (∀ w1 v, w1.ownsRow lo 9 1 v (vs.length + 1) (wvL vs ++ [.string (strOf u)]) → (W.alloc (.cells #[.string (strOf u)] 9)).grownBy w1 vw.ownBlock → Wk (w1.setCell ⟨Wb, 1, none⟩ v) lo Wb Tb Fb A (.pointer (some ⟨m e, 0, none⟩)) bs (vs ++ [u]) en vt v ∧ Below lo W (w1.setCell ⟨Wb, 1, none⟩ v)) := fun w1 v hown hg => by
      have h := (hW.alloc (.cells #[.string (strOf u)] 9)).word hown hg
      exact ⟨h.1, ((Below.refl lo W).alloc hlw _).trans h.2⟩
    have hTW : Tb ≠ Wb := Blk.ne_ hW.tb hW.wb (by decide)
    have hmW : m u ≠ Wb := by have := hW.lw; omega
    have HM : Hid (∀ w1 : World, (W.alloc (.cells #[.string (strOf u)] 9)).grownBy w1 vw.ownBlock → w1.cell? ⟨Wb, 1, none⟩ = some vw ∧ w1.frozen? ⟨Wb, 1, none⟩ = false ∧ w1.cell? ⟨Tb, 1, none⟩ = some (.pointer (some ⟨m e, 0, none⟩)) ∧ w1.frozen? ⟨Wb, 2, none⟩ = false ∧ w1.cell? ⟨Wb, 2, none⟩ = some (.string en) ∧ w1.cell? ⟨m u, 0, none⟩ = some (.pointer (ptO m N u 0)) ∧ w1.cell? ⟨m u, 1, none⟩ = some (.pointer (ptO m N u 1)) ∧ w1.cell? ⟨m u, 2, none⟩ = some (.pointer (ptO m N u 2)) ∧ w1.cell? ⟨m u, 3, none⟩ = some (.pointer (ptO m N u 3))) := fun w1 hg => by
      have hA := hW.alloc (.cells #[.string (strOf u)] 9)
      have hw1 : Blk w1 Wb _ _ := hA.wb.grown hg (own_blk_ne hA.wd hA.wb (by decide)).symm
      have ht1 : Blk w1 Tb _ _ := hA.tb.grown hg (own_blk_ne hA.wd hA.tb (by decide)).symm
      have hn0 : Blk (W.alloc (.cells #[.string (strOf u)] 9)) (m u) 79 (nd4 (ptrTo m N u)) := Blk.alloc (hG.blk u hu) _
      have hn1 : Blk w1 (m u) _ _ := hn0.grown hg (own_blk_ne hA.wd hn0 (by decide)).symm
      refine ⟨hw1.cell 1, hw1.frozen 1, ht1.cell 1, hw1.frozen 2, hw1.cell 2, ?_, ?_, ?_, ?_⟩
      · rw [← ptrTo_ptO]; exact hn1.cell 0
      · rw [← ptrTo_ptO]; exact hn1.cell 1
      · rw [← ptrTo_ptO]; exact hn1.cell 2
      · rw [← ptrTo_ptO]; exact hn1.cell 3
    have HE : Hid (∀ (w1 : World) (v : Value), Below lo W (w1.setCell ⟨Wb, 1, none⟩ v) → (binOp .eql 52 (.pointer (some ⟨m u, 0, none⟩)) (.pointer (some ⟨m e, 0, none⟩))).run Tryd.prog (w1.setCell ⟨Wb, 1, none⟩ v) = .ok (.bool (decide (u = e))) (w1.setCell ⟨Wb, 1, none⟩ v)) := fun w1 v hb => eq_nodes (hG.same (fun x hx => hb.block _ (hlo x hx))) hu he
    have HG := Lib.hid hG
    have HC := Lib.hid hC
    have IH := Lib.hid ih
    have HLO := Lib.hid hlo
    have HB1 := Lib.hid hb1
    have HB2 := Lib.hid hb2
    have HK := Lib.hid hk
    have hcase : u = e ∨ u ≠ e := Classical.em _
    clear hG hC ih hlo hk hb1 hb2 hW
    rcases hcase with hue | hue
    case' inl =>
      have HUE := Lib.hid hue
      clear hue
      go_enter Tryd.func78, Tryd.ntmps78
      go_wp2_with (at_builtin; refine wpList_append_lies _ rfl _ _ _ rfl lo 9 i1 (.string ⟨#[]⟩) 1 16 Tryd.underlying27 hi hz0 hz1 hz2 rfl (by decide) vw vs.length (wvL vs) rfl hwd1 ⟨W.heap.size, 0, none⟩ 1 1 [.string (strOf u)] rfl rfl (cell_one_new _ _ _) (by simp [Value.oneCell']) (by decide) hbw1 hbw2 hbw3 (W.heap.size + 1) (by simp) ?_; intro g cap w1 hown hgrow hat hlt; obtain ⟨a1, a2, a3, a4, a5, a6, a7, a8, a9⟩ := HM.out w1 hgrow; obtain ⟨hk1, hb1⟩ := HW.out w1 _ hown hgrow; have hE := HE.out w1 _ hb1; rw [decide_eq_true HUE.out] at hE; have HK1 := Lib.hid hk1; have HBL1 := Lib.hid hb1; clear hk1 hb1 hown hgrow hat)
      have hk2 : Wk ((w1.setCell ⟨Wb, 1, none⟩ (.slice (some ⟨g, 0, none⟩) (vs.length + 1) cap)).setCell ⟨Wb, 2, none⟩ (.string (strOf u))) lo Wb Tb Fb A (.pointer (some ⟨m e, 0, none⟩)) (bs ++ prT N k u 0) (vs ++ u :: preL N k u 0) (enF e (u :: preL N k u 0) en) vt (.slice (some ⟨g, 0, none⟩) (vs.length + 1) cap) := by
        have e1 : bs ++ prT N k u 0 = bs := by simp [prT]
        have e2 : enF e (u :: preL N k u 0) en = strOf u := by rw [HUE.out]; exact enF_one_eq e en
        rw [e1, e2]
        exact (HK1.out.end_ (strOf u)).1
      have hB2 := HBL1.out.trans (HK1.out.end_ (strOf u)).2
      clear HK1 HBL1 HW HM HE hE a1 a2 a3 a4 a5 a6 a7 a8 a9 hlt hwd1 hbw1 hbw2 hbw3 hcw1 hfw1 hwl hz0 hz1 hz2 hi
      generalize (w1.setCell ⟨Wb, 1, none⟩ (.slice (some ⟨g, 0, none⟩) (vs.length + 1) cap)).setCell ⟨Wb, 2, none⟩ (.string (strOf u)) = V at *
      generalize Value.slice (some ⟨g, 0, none⟩) (vs.length + 1) cap = vw2 at *
    case' inr =>
      go_enter Tryd.func78, Tryd.ntmps78
      go_wp2_with (at_builtin; refine wpList_append_lies _ rfl _ _ _ rfl lo 9 i1 (.string ⟨#[]⟩) 1 16 Tryd.underlying27 hi hz0 hz1 hz2 rfl (by decide) vw vs.length (wvL vs) rfl hwd1 ⟨W.heap.size, 0, none⟩ 1 1 [.string (strOf u)] rfl rfl (cell_one_new _ _ _) (by simp [Value.oneCell']) (by decide) hbw1 hbw2 hbw3 (W.heap.size + 1) (by simp) ?_; intro g cap w1 hown hgrow hat hlt; obtain ⟨a1, a2, a3, a4, a5, a6, a7, a8, a9⟩ := HM.out w1 hgrow; obtain ⟨hk1, hb1⟩ := HW.out w1 _ hown hgrow; have hE := HE.out w1 _ hb1; rw [decide_eq_false hue] at hE; have HK1 := Lib.hid hk1; have HBL1 := Lib.hid hb1; clear hk1 hb1 hown hgrow hat)
      have hk2 : Wk (w1.setCell ⟨Wb, 1, none⟩ (.slice (some ⟨g, 0, none⟩) (vs.length + 1) cap)) lo Wb Tb Fb A (.pointer (some ⟨m e, 0, none⟩)) (bs ++ prT N k u 0) (vs ++ u :: preL N k u 0) (enF e (u :: preL N k u 0) en) vt (.slice (some ⟨g, 0, none⟩) (vs.length + 1) cap) := by
        have e1 : bs ++ prT N k u 0 = bs := by simp [prT]
        have e2 : enF e (u :: preL N k u 0) en = en := enF_one_ne hue en
        rw [e1, e2]
        exact HK1.out
      have hB2 := HBL1.out
      clear HK1 HBL1 HW HM HE hE a1 a2 a3 a4 a5 a6 a7 a8 a9 hlt hwd1 hbw1 hbw2 hbw3 hcw1 hfw1 hwl hz0 hz1 hz2 hi
      generalize w1.setCell ⟨Wb, 1, none⟩ (.slice (some ⟨g, 0, none⟩) (vs.length + 1) cap) = V at *
      generalize Value.slice (some ⟨g, 0, none⟩) (vs.length + 1) cap = vw2 at *
    all_goals
      go_loopw [27] (fun i wr => ∃ (t : Nat) (vt' vw' : Value), t ≤ 4 ∧ i = .int .i64 (t : Int) ∧ Wk wr lo Wb Tb Fb A (.pointer (some ⟨m e, 0, none⟩)) (bs ++ prT N k u t) (vs ++ u :: preL N k u t) (enF e (u :: preL N k u t) en) vt' vw' ∧ Below lo W wr) (fun i _ => 4 - (intOf i).toNat)
      case atStart => exact ⟨0, vt, vw2, by omega, rfl, hk2, hB2⟩
      case round =>
        obtain ⟨t, vt', vw', ht, rfl, hk, hB⟩ := hrel
        clear hk2 hB2
        by_cases h4 : t = 4
        · subst h4
          have HKF := Lib.hid hk
          have HBF := Lib.hid hB
          clear hk hB
          go_wp2
          go_end0
          exact ⟨vt', vw', rfl, HKF.out, HBF.out⟩
        · obtain ⟨c, rfl⟩ : ∃ c : Fin 4, t = c.val := ⟨⟨t, by omega⟩, rfl⟩
          have hIX := fun W' : World => idx_nodes (ptO m N u) c W'
          have hLX := fun W' : World => idx_let c W'
          have hSX := fun W' : World => sl_let c W'
          have HINV : Hid (∀ V : World, Calls Tryd.prog 79 #[.int .i64 ((c.val : Nat) : Int)] V fun e w' => e = .returned (.int .i64 (((ivL c).val : Nat) : Int)) ∧ w' = V) := fun V => inverse_any c V
          have hLY := fun W' : World => idx_let (ivL c) W'
          have hc4 : (c.val : Int) < 4 := by omega
          have hc5 : c.val < 4 := c.isLt
          have hc6 : (0 : Int) ≤ (c.val : Int) := by omega
          have hwr : IntKind.i64.wrap ((c.val : Int) + 1) = (c.val : Int) + 1 := by rw [IntKind.wrap_i64]; omega
          clear h4 ht
          rcases HC.out c with ⟨hp, hkd⟩ | ⟨v, hp, hbf, hkd⟩ | ⟨hp, hcu, hkd, hbf⟩
          · have HKS : Hid (Wk wr lo Wb Tb Fb A (.pointer (some ⟨m e, 0, none⟩)) (bs ++ prT N k u (c.val + 1)) (vs ++ u :: preL N k u (c.val + 1)) (enF e (u :: preL N k u (c.val + 1)) en) vt' vw') := by
              have e1 : bs ++ prT N k u (c.val + 1) = bs ++ prT N k u c.val := by rw [prT_succ, hkd]; simp
              have e2 : u :: preL N k u (c.val + 1) = u :: preL N k u c.val := by rw [preL_succ, hkd]; simp
              rw [e1, e2]
              exact hk
            have HBF := Lib.hid hB
            clear hk hB hkd
            generalize ptO m N u c = pc at *
            subst hp
            go_wp2
            go_roundw
            case rel => exact ⟨c.val + 1, vt', vw', hc5, by go_num, HKS.out, HBF.out⟩
            case measure => simp [intOf]; omega
          · have HKS : Hid (Wk wr lo Wb Tb Fb A (.pointer (some ⟨m e, 0, none⟩)) (bs ++ prT N k u (c.val + 1)) (vs ++ u :: preL N k u (c.val + 1)) (enF e (u :: preL N k u (c.val + 1)) en) vt' vw') := by
              have e1 : bs ++ prT N k u (c.val + 1) = bs ++ prT N k u c.val := by rw [prT_succ, hkd]; simp
              have e2 : u :: preL N k u (c.val + 1) = u :: preL N k u c.val := by rw [preL_succ, hkd]; simp
              rw [e1, e2]
              exact hk
            have HBF := Lib.hid hB
            have hEQ : (binOp .eql 52 (.pointer (some ⟨m v, 0, none⟩)) (.pointer (some ⟨m v, 0, none⟩))).run Tryd.prog wr = .ok (.bool true) wr := by
              obtain ⟨i, hi, _, hs, _⟩ := info_parts info_node
              exact run_eql_ptr_same wr _ Tryd.underlying52 hi
            clear hk hB hkd
            generalize m v = mv at *
            generalize befO m u = bf at *
            subst hbf
            generalize ptO m N u c = pc at *
            subst hp
            go_wp2
            go_roundw
            case rel => exact ⟨c.val + 1, vt', vw', hc5, by go_num, HKS.out, HBF.out⟩
            case measure => simp [intOf]; omega
          · have hkl : N.length ≤ (c :: u).length + k := by have := HK.out; simp; omega
            have hF1 := preL_le N k u (c.val + 1)
            have hT1 := prT_le N k u (c.val + 1)
            have e1 : bs ++ prT N k u (c.val + 1) = (bs ++ prT N k u c.val ++ [c]) ++ preT N k (c :: u) ++ [ivL c] := by rw [prT_succ, hkd]; simp
            have e2 : vs ++ u :: preL N k u (c.val + 1) = (vs ++ u :: preL N k u c.val) ++ preF N k (c :: u) := by rw [preL_succ, hkd]; simp
            have e3 : enF e (u :: preL N k u (c.val + 1)) en = enF e (preF N k (c :: u)) (enF e (u :: preL N k u c.val) en) := by rw [← enF_app, preL_succ, hkd]; simp
            have HE1 : Hid (bs ++ prT N k u (c.val + 1) = (bs ++ prT N k u c.val ++ [c]) ++ preT N k (c :: u) ++ [ivL c] ∧ vs ++ u :: preL N k u (c.val + 1) = (vs ++ u :: preL N k u c.val) ++ preF N k (c :: u) ∧ enF e (u :: preL N k u (c.val + 1)) en = enF e (preF N k (c :: u)) (enF e (u :: preL N k u c.val) en)) := ⟨e1, e2, e3⟩
            have hlT : (bs ++ prT N k u c.val).length + 1 + (preT N k (c :: u)).length + 1 ≤ 1000000 := by
              have h1 := HB2.out
              have h2 := congrArg List.length e1
              simp only [List.length_append, List.length_cons, List.length_nil] at h2 ⊢
              omega
            have hlF : (vs ++ u :: preL N k u c.val).length + (preF N k (c :: u)).length ≤ 1000000 := by
              have h1 := HB1.out
              have h2 := congrArg List.length e2
              simp only [List.length_append, List.length_cons, List.length_nil] at h2 ⊢
              omega
            clear e1 e2 e3 hF1 hT1
            generalize bs ++ prT N k u c.val = bs1 at *
            generalize vs ++ u :: preL N k u c.val = vs1 at *
            generalize enF e (u :: preL N k u c.val) en = en1 at *
            have HIH : Hid (∀ (V : World) (vt vw : Value), Wk V lo Wb Tb Fb A (.pointer (some ⟨m e, 0, none⟩)) (bs1 ++ [c]) vs1 en1 vt vw → Below lo W V → Calls Tryd.prog 78 #[.pointer (some ⟨m (c :: u), 0, none⟩), .pointer (some ⟨m u, 0, none⟩), .string (strOf u ++ ⟨#[ltB c]⟩), .pointer (some ⟨Wb, 0, none⟩), .pointer (some ⟨Tb, 0, none⟩), .pointer (some ⟨Fb, 0, none⟩)] V fun e' W' => ∃ vt' vw', e' = .returned (.tuple #[]) ∧
                Wk W' lo Wb Tb Fb A (.pointer (some ⟨m e, 0, none⟩)) (bs1 ++ [c] ++ preT N k (c :: u)) (vs1 ++ preF N k (c :: u)) (enF e (preF N k (c :: u)) en1) vt' vw' ∧ Below lo W W') := fun V vt vw h1 h2 => by
              have := IH.out (c :: u) (bs1 ++ [c]) vs1 en1 vt vw V hkl hcu (HG.out.same (fun x hx => h2.block _ (HLO.out x hx))) h1 hlF (by rw [List.length_append, List.length_singleton]; omega)
              rw [strOf_snoc] at this
              exact this.mono fun e' W' ⟨a, b, h3, h4, h5⟩ => ⟨a, b, h3, h4, h2.trans h5⟩
            have hGr := HG.out.same (fun x hx => hB.block _ (HLO.out x hx))
            have hEQ : befO m u = none ∨ ∃ b, befO m u = some ⟨b, 0, none⟩ ∧ (binOp .eql 52 (.pointer (some ⟨m (c :: u), 0, none⟩)) (.pointer (some ⟨b, 0, none⟩))).run Tryd.prog wr = .ok (.bool false) wr := by
              rcases hbf with h | ⟨v, h, hv, hne⟩
              · exact .inl h
              · refine .inr ⟨m v, h, ?_⟩
                have := eq_nodes hGr hcu hv
                rwa [decide_eq_false hne] at this
            clear hbf hGr hkl hcu hkd hlF
            generalize ptO m N u c = pc at *
            subst hp
            generalize m (c :: u) = mc at *
            generalize befO m u = bf at *
            obtain ⟨i0, hi, hz0, hz1, hz2⟩ := info_parts info_u8
            have hA7 := hk.drew.alloc (.cells #[.int .u8 ((ltB c).toNat : Int)] 5)
            have hX7 := hA7.tx
            have hc7 : wr.cell? ⟨Wb, 0, none⟩ = some vt' := hk.wb.cell 0
            have HA7 : Hid (∀ o, (wr.drew.alloc o).cell? ⟨Wb, 0, none⟩ = some vt') := fun o => (hk.drew.alloc o).wb.cell 0
            have HM7 : Hid (∀ w7 : World, (wr.drew.alloc (.cells #[.int .u8 ((ltB c).toNat : Int)] 5)).grownBy w7 vt'.ownBlock → w7.cell? ⟨Wb, 0, none⟩ = some vt' ∧ w7.frozen? ⟨Wb, 0, none⟩ = false) := fun w7 hg => by
              have hw1 : Blk w7 Wb _ _ := hA7.wb.grown hg (own_blk_ne hA7.tx hA7.wb (by decide)).symm
              exact ⟨hw1.cell 0, hw1.frozen 0⟩
            have HW7 : Hid (∀ (w7 : World) (v : Value), w7.ownsRow lo 5 1 v (bs1.length + 1) (bvL bs1 ++ [.int .u8 ((ltB c).toNat : Int)]) → (wr.drew.alloc (.cells #[.int .u8 ((ltB c).toNat : Int)] 5)).grownBy w7 vt'.ownBlock → Wk (w7.setCell ⟨Wb, 0, none⟩ v) lo Wb Tb Fb A (.pointer (some ⟨m e, 0, none⟩)) (bs1 ++ [c]) vs1 en1 v vw' ∧ Below lo W (w7.setCell ⟨Wb, 0, none⟩ v)) := fun w7 v hown hg => by
              have h := hA7.letter hown hg
              exact ⟨h.1, (hB.drew.alloc hk.low _).trans h.2⟩
            have hx1 : bs1.length + 1 ≤ maxLen := by unfold maxLen; omega
            have hx2 : (bs1.length + 1) * 1 ≤ 140737488355328 := by omega
            have hx3 : lo ≤ (wr.drew.alloc (.cells #[.int .u8 ((ltB c).toNat : Int)] 5)).heap.size := hA7.low
            have hwl := hk.wb.lt
            have HLT := Lib.hid hlT
            have hus : (strOf u).size + (⟨#[ltB c]⟩ : ByteArray).size ≤ 9223372036854775807 := by
              rw [strOf_size]
              show u.length + 1 ≤ _
              have h1 := HG.out.tre.len hu
              have h2 := HB1.out
              have h3 := HNL.out
              omega
            have hAD := fun W' : World => run_string_add_sum (P := Tryd.prog) W' (strOf u) ⟨#[ltB c]⟩ hus
            clear hk hB hA7 hlT
            rcases hEQ with rfl | ⟨b, rfl, hEQ⟩
            all_goals
              go_wp2_with fail
              rename_i Ko aKo K1 aK1
              apply kcut (fun F : Nat → Nat → Act => Hid (∀ (g7 cap7 : Nat) (w7 : World), w7.ownsRow lo 5 1 (.slice (some ⟨g7, 0, none⟩) (bs1.length + 1) cap7) (bs1.length + 1) (bvL bs1 ++ [.int .u8 ((ltB c).toNat : Int)]) → (wr.drew.alloc (.cells #[.int .u8 ((ltB c).toNat : Int)] 5)).grownBy w7 vt'.ownBlock → K1 (F g7 cap7) (w7.setCell ⟨Wb, 0, none⟩ (.slice (some ⟨g7, 0, none⟩) (bs1.length + 1) cap7))))
              case h1 =>
                intro HK7
                go_region_law ((refine step_append_lies _ (by rfl) _ _ _ (by rfl) lo 5 i0 (.int .u8 0) 1 1 Tryd.underlying22 hi hz0 hz1 hz2 rfl (by decide) vt' bs1.length (bvL bs1) (by rfl) hX7 ⟨wr.heap.size, 0, none⟩ 1 1 [.int .u8 ((ltB c).toNat : Int)] (by rfl) rfl (cell_one_new _ _ _) (by simp [Value.oneCell']) (by decide) hx1 hx2 hx3 (wr.heap.size + 1) (by simp) ?_; intro g7 cap7 w7 hown7 hgrow7 hat7 hlt7; obtain ⟨hq, hqf⟩ := HM7.out w7 hgrow7))
                all_goals exact HK7.out g7 cap7 w7 hown7 hgrow7
              intro g7 cap7 w7 hown7 hgrow7
              obtain ⟨hk8, hB8⟩ := HW7.out w7 _ hown7 hgrow7
              generalize w7.setCell ⟨Wb, 0, none⟩ (.slice (some ⟨g7, 0, none⟩) (bs1.length + 1) cap7) = V8 at *
              generalize Value.slice (some ⟨g7, 0, none⟩) (bs1.length + 1) cap7 = vt8 at *
              have hc8 : V8.cell? ⟨Fb, 0, none⟩ = some (.func (.func 78) #[] #[.pointer (some ⟨Wb, 0, none⟩), .pointer (some ⟨Tb, 0, none⟩), .pointer (some ⟨Fb, 0, none⟩)]) := hk8.fb.cell 0
              have HI8 := Lib.hid (HIH.out V8.drew _ _ hk8.drew hB8.drew)
              refine aK1 _ _ ?_
              clear HW7 HM7 HA7 hX7 hx1 hx2 hx3 hc7 hwl hown7 hgrow7 hk8 hB8 hIX aK1
              go_wp2_with fail
              go_region_held3 (fun w' => w'.cell? ⟨Fb, 0, none⟩ = some (.func (.func 78) #[] #[.pointer (some ⟨Wb, 0, none⟩), .pointer (some ⟨Tb, 0, none⟩), .pointer (some ⟨Fb, 0, none⟩)]))
                (first | exact hc8 | exact hc9 | go_keep)
                ((go_at_call 78; refine HI8.out.mono ?_; rintro e' V9 ⟨vt9, vw9, rfl, hk9, hB9⟩; have hc9 := hk9.fb.cell 0))
              clear HI8 hc8 hc9 hSX hwr hAD hus HIH
              obtain ⟨E1, E2, E3⟩ := HE1.out
              have hR9 := HLT.out
              have e9 : bs1 ++ [c] ++ preT N k (c :: u) = bs1 ++ [c] ++ preT N k (c :: u) := rfl
              have hlen9 : (bs1 ++ [c] ++ preT N k (c :: u)).length + 1 ≤ 1000000 := by
                simp only [List.length_append, List.length_cons, List.length_nil] at hR9 ⊢
                omega
              clear e9 hR9
              rw [← E2, ← E3] at hk9
              have HE9 : Hid (bs ++ prT N k u (c.val + 1) = bs1 ++ [c] ++ preT N k (c :: u) ++ [ivL c]) := E1
              clear E1 E2 E3 HE1
              generalize bs1 ++ [c] ++ preT N k (c :: u) = bs9 at *
              have hA9 := hk9.drew.alloc (.cells #[.int .u8 ((ltB (ivL c)).toNat : Int)] 5)
              have hX9 := hA9.tx
              have hc10 : V9.cell? ⟨Wb, 0, none⟩ = some vt9 := hk9.wb.cell 0
              have HM9 : Hid (∀ w7 : World, (V9.drew.alloc (.cells #[.int .u8 ((ltB (ivL c)).toNat : Int)] 5)).grownBy w7 vt9.ownBlock → w7.cell? ⟨Wb, 0, none⟩ = some vt9 ∧ w7.frozen? ⟨Wb, 0, none⟩ = false) := fun w7 hg => by
                have hw1 : Blk w7 Wb _ _ := hA9.wb.grown hg (own_blk_ne hA9.tx hA9.wb (by decide)).symm
                exact ⟨hw1.cell 0, hw1.frozen 0⟩
              have HW9 : Hid (∀ (w7 : World) (v : Value), w7.ownsRow lo 5 1 v (bs9.length + 1) (bvL bs9 ++ [.int .u8 ((ltB (ivL c)).toNat : Int)]) → (V9.drew.alloc (.cells #[.int .u8 ((ltB (ivL c)).toNat : Int)] 5)).grownBy w7 vt9.ownBlock → Wk (w7.setCell ⟨Wb, 0, none⟩ v) lo Wb Tb Fb A (.pointer (some ⟨m e, 0, none⟩)) (bs ++ prT N k u (c.val + 1)) (vs ++ u :: preL N k u (c.val + 1)) (enF e (u :: preL N k u (c.val + 1)) en) v vw9 ∧ Below lo W (w7.setCell ⟨Wb, 0, none⟩ v)) := fun w7 v hown hg => by
                have h := hA9.letter hown hg
                rw [HE9.out]
                exact ⟨h.1, (hB9.drew.alloc hk9.low _).trans h.2⟩
              have hx1 : bs9.length + 1 ≤ maxLen := by unfold maxLen; omega
              have hx2 : (bs9.length + 1) * 1 ≤ 140737488355328 := by omega
              have hx3 : lo ≤ (V9.drew.alloc (.cells #[.int .u8 ((ltB (ivL c)).toNat : Int)] 5)).heap.size := hA9.low
              have hwl := hk9.wb.lt
              have hv4 : ((ivL c).val : Int) < 4 := by omega
              have hv6 : (0 : Int) ≤ ((ivL c).val : Int) := by omega
              clear hk9 hB9 hA9 hlen9
              go_wp2_with fail
              apply kcut (fun F : Nat → Nat → Act => Hid (∀ (g7 cap7 : Nat) (w7 : World), w7.ownsRow lo 5 1 (.slice (some ⟨g7, 0, none⟩) (bs9.length + 1) cap7) (bs9.length + 1) (bvL bs9 ++ [.int .u8 ((ltB (ivL c)).toNat : Int)]) → (V9.drew.alloc (.cells #[.int .u8 ((ltB (ivL c)).toNat : Int)] 5)).grownBy w7 vt9.ownBlock → Ko (F g7 cap7) (w7.setCell ⟨Wb, 0, none⟩ (.slice (some ⟨g7, 0, none⟩) (bs9.length + 1) cap7))))
              case h1 =>
                intro HK7
                go_region_law (first
                  | (refine step_append_lies _ (by rfl) _ _ _ (by rfl) lo 5 i0 (.int .u8 0) 1 1 Tryd.underlying22 hi hz0 hz1 hz2 rfl (by decide) vt9 bs9.length (bvL bs9) (by rfl) hX9 ⟨V9.heap.size, 0, none⟩ 1 1 [.int .u8 ((ltB (ivL c)).toNat : Int)] (by rfl) rfl (cell_one_new _ _ _) (by simp [Value.oneCell']) (by decide) hx1 hx2 hx3 (V9.heap.size + 1) (by simp) ?_; intro g7 cap7 w7 hown7 hgrow7 hat7 hlt7; obtain ⟨hq, hqf⟩ := HM9.out w7 hgrow7)
                  | (go_simp
                     refine (HINV.out _).mono ?_
                     rintro e' V1 ⟨rfl, rfl⟩))
                all_goals exact HK7.out g7 cap7 w7 hown7 hgrow7
              intro g7 cap7 w7 hown7 hgrow7
              have HF := Lib.hid (HW9.out w7 _ hown7 hgrow7)
              generalize w7.setCell ⟨Wb, 0, none⟩ (.slice (some ⟨g7, 0, none⟩) (bs9.length + 1) cap7) = V10 at *
              generalize Value.slice (some ⟨g7, 0, none⟩) (bs9.length + 1) cap7 = vt10 at *
              refine aKo _ _ ?_
              clear HW9 HM9 hX9 hx1 hx2 hx3 hc10 hwl hown7 hgrow7 aKo
              go_wp2
              go_roundw
              case rel => exact ⟨c.val + 1, vt10, vw9, hc5, by go_num, HF.out.1, HF.out.2⟩
              case measure => simp [intOf]; omega
end

end Go.Proofs.YtlcjgppclclkoaaDoor
