/-
  FnExactArrowTimes: for every input the law returns true and leaves its arguments as they were. No condition.
-/
import Derived.Test.YtoomeimloaloaaaRows
import Derived.Test.YtoomeimloaloaaaAk
import Derived.Test.YtoomeimloaloaaaMark
import Derived.WalkKit
import Derived.Deep.QuietTactic
import Derived.BigQuiet
import Derived.Outline
import Derived.ProofKit
import Derived.OpenShut
import Derived.ShutString
import Derived.ChangeOld
import Derived.Below
namespace Go.Proofs.Ytoomeimloaloaaa.fnExactArrowTimes
set_option maxRecDepth 100000
open Go.ChangeShapes Go.WideShapes Go.ChangeAt Go.RowKit
open Go.ChangeMaps (open_string shut_string)
set_option linter.unusedVariables false

theorem own : ownKnob Try.prog.godebug = none := by kernel_rfl
theorem laidOut : laidOutB Try.prog = true := by kernel_rfl

/-- WHAT THE WALK IS TOLD OF A SLICE OF INTEGERS THAT CAME IN: it is nil; or it leads to a row of 'cap' cells, the numbers 'zs' (the first 'len' are its elements, the rest its spare room), each fitting its kind. -/
def IsRow (k : IntKind) (w : World) (a : Option Addr) (len cap : Nat) (zs : List Int) : Prop :=
  (a = none ∧ len = 0 ∧ cap = 0 ∧ zs = []) ∨
  ∃ x, a = some x ∧ len ≤ cap ∧ cap ≤ maxLen ∧ zs.length = cap ∧ (∀ i, i < zs.length → w.cell? (x.add i) = some (.int k (zs.getD i 0))) ∧ ∀ n ∈ zs, (Lit.int k n).wf = true

theorem ri_of {w : World} {a : Option Addr} {len cap : Nat} {zs : List Int} (h : IsRow .i64 w a len cap zs) : RI w a len (zs.take len) := by
  rcases h with ⟨rfl, rfl, _, rfl⟩ | ⟨x, rfl, hlc, _, hz, hc, _⟩
  · exact ⟨rfl, Reads.none_⟩
  · refine ⟨by simp; omega, by simp [ivs]; omega, fun hn => ⟨x, rfl, ?_, ?_⟩⟩
    · have := block_lt_of_cell (hc 0 (by omega)); rwa [block_of_add] at this
    · intro j u hu
      have hj : j < (zs.take len).length := by
        rcases Nat.lt_or_ge j (zs.take len).length with h | h
        · exact h
        · rw [List.getElem?_eq_none (by simpa [ivs] using h)] at hu; cases hu
      have hjl : j < len := by simp at hj; omega
      rw [ivs_get, List.getElem?_take_of_lt hjl] at hu
      rw [hc j (by omega), ← hu, List.getD_eq_getElem?_getD, List.getElem?_eq_getElem (by omega)]
      rfl

/-! ### STEP 1: THE WALK: the Go text returns true, AND WRITES NOTHING THAT WAS THERE: 'Below w.heap.size w w'' (Derived/Below.lean: '.refl', '.alloc', '.drew', '.setCell' at a new block, '.trans'). Open each 'IsRow' by 'rcases' AHEAD of 'go_enter'; part every test ahead of the walk. -/
set_option maxHeartbeats 4000000 in
theorem walk (a0 : Option Addr) (len0 cap0 : Nat) (z0 : List Int) (a1 : Option Addr) (len1 cap1 : Nat) (z1 : List Int) (w : World) (w0 : IsRow .i64 w a0 len0 cap0 z0) (w1 : IsRow .i64 w a1 len1 cap1 z1) :
    Calls Try.prog 4 #[.slice a0 len0 cap0, .slice a1 len1 cap1] w fun e w' => e = .returned (.bool true) ∧ Below w.heap.size w w' := by
  have h0 := ri_of w0
  generalize z0.take len0 = zs0 at h0
  clear w0
  have HL0 := Lib.hid h0.1
  have hA0 := h0.2
  clear h0
  have h1 := ri_of w1
  generalize z1.take len1 = zs1 at h1
  clear w1
  have HL1 := Lib.hid h1.1
  have hA1 := h1.2
  clear h1
  by_cases hbig0 : 1048576 < len0
  · go_enter Try.func4, Try.ntmps4
    go_wp2
    go_ret
    exact ⟨rfl, Below.refl _ _⟩
  by_cases hbig1 : 1048576 < len1
  · go_enter Try.func4, Try.ntmps4
    go_wp2
    go_ret
    exact ⟨rfl, Below.refl _ _⟩
  have hL6 := atL_le zs0 zs1
  go_enter Try.func4, Try.ntmps4
  go_wp2_with fail
  refine (toIntS_any _ _ _ _ _ ⟨HL0.out, hA0.more (Nat.le_refl _)⟩ (by omega)).mono ?_
  rintro e W1 ⟨B_oS0, rfl, oS0, b1⟩
  replace hA0 := hA0.below (b1.mono (Nat.le_refl _))
  replace hA1 := hA1.below (b1.mono (Nat.le_refl _))
  have hbel := b1
  have hbs_oS0 : w.heap.size ≤ w.heap.size := Nat.le_refl _
  have hs_W1 := hbel.size
  clear b1
  go_wp2_with fail
  refine (toIntS_any _ _ _ _ _ ⟨HL1.out, hA1.more hbel.size⟩ (by omega)).mono ?_
  rintro e W2 ⟨B_oS1, rfl, oS1, b2⟩
  have ap_oS0_oS1 := Lib.hid (apart_of oS0 (Nat.le_refl _) oS1)
  replace hA0 := hA0.below (b2.mono hbel.size)
  replace hA1 := hA1.below (b2.mono hbel.size)
  replace oS0 := own_below oS0 b2
  replace hbel := hbel.trans (b2.mono hbel.size)
  have hbs_oS1 : w.heap.size ≤ W1.heap.size := hs_W1
  have hs_W2 := hbel.size
  clear b2
  go_wp2_with fail
  refine (specAT_any _ _ _ _ _ _ _ _ _ (RI.of_own oS0) (RI.of_own oS1) (by omega) (by omega)).mono ?_
  rintro e W3 ⟨v_, rfl, oV, b3⟩
  obtain ⟨A_oV, c_oV, rfl⟩ := own_slice oV
  have ap_oS0_oV := Lib.hid (apart_of oS0 (Nat.le_refl _) oV)
  have ap_oS1_oV := Lib.hid (apart_of oS1 (Nat.le_refl _) oV)
  replace hA0 := hA0.below (b3.mono hbel.size)
  replace hA1 := hA1.below (b3.mono hbel.size)
  replace oS0 := own_below oS0 b3
  replace oS1 := own_below oS1 b3
  replace hbel := hbel.trans (b3.mono hbel.size)
  have hbs_oV : w.heap.size ≤ W2.heap.size := hs_W2
  have hs_W3 := hbel.size
  clear b3
  clear oS0
  clear oS1
  go_wp2_with fail
  refine (toIntS_any _ _ _ _ _ ⟨HL0.out, hA0.more hbel.size⟩ (by omega)).mono ?_
  rintro e W4 ⟨B_oX0, rfl, oX0, b4⟩
  have ap_oV_oX0 := Lib.hid (apart_of oV (Nat.le_refl _) oX0)
  replace hA0 := hA0.below (b4.mono hbel.size)
  replace hA1 := hA1.below (b4.mono hbel.size)
  replace oV := own_below oV b4
  replace hbel := hbel.trans (b4.mono hbel.size)
  have hbs_oX0 : w.heap.size ≤ W3.heap.size := hs_W3
  have hs_W4 := hbel.size
  clear b4
  go_wp2_with fail
  refine (toIntS_any _ _ _ _ _ ⟨HL1.out, hA1.more hbel.size⟩ (by omega)).mono ?_
  rintro e W5 ⟨B_oX1, rfl, oX1, b5⟩
  have ap_oV_oX1 := Lib.hid (apart_of oV (Nat.le_refl _) oX1)
  have ap_oX0_oX1 := Lib.hid (apart_of oX0 (Nat.le_refl _) oX1)
  replace hA0 := hA0.below (b5.mono hbel.size)
  replace hA1 := hA1.below (b5.mono hbel.size)
  replace oV := own_below oV b5
  replace oX0 := own_below oX0 b5
  replace hbel := hbel.trans (b5.mono hbel.size)
  have hbs_oX1 : w.heap.size ≤ W4.heap.size := hs_W4
  have hs_W5 := hbel.size
  clear b5
  go_wp2_with fail
  refine (implAT_any _ _ _ _ _ _ _ _ _ (RI.of_own oX0) (RI.of_own oX1)).mono ?_
  rintro e W6 ⟨v_, rfl, oG, b6⟩
  obtain ⟨A_oG, c_oG, rfl⟩ := own_slice oG
  have ap_oV_oG := Lib.hid (apart_of oV (Nat.le_refl _) oG)
  have ap_oX0_oG := Lib.hid (apart_of oX0 (Nat.le_refl _) oG)
  have ap_oX1_oG := Lib.hid (apart_of oX1 (Nat.le_refl _) oG)
  replace hA0 := hA0.below (b6.mono hbel.size)
  replace hA1 := hA1.below (b6.mono hbel.size)
  replace oV := own_below oV b6
  replace oX0 := own_below oX0 b6
  replace oX1 := own_below oX1 b6
  replace hbel := hbel.trans (b6.mono hbel.size)
  have hbs_oG : w.heap.size ≤ W5.heap.size := hs_W5
  have hs_W6 := hbel.size
  clear b6
  go_wp2_with fail
  refine (eqIntS_any _ _ _ _ _ _ _ _ _ (RI.of_own oG) (RI.of_own oV) (by omega)).mono ?_
  rintro e W7 ⟨rfl, b7⟩
  replace hA0 := hA0.below (b7.mono hbel.size)
  replace hA1 := hA1.below (b7.mono hbel.size)
  replace oV := own_below oV b7
  replace oX0 := own_below oX0 b7
  replace oX1 := own_below oX1 b7
  replace oG := own_below oG b7
  replace hbel := hbel.trans (b7.mono hbel.size)
  have hs_W7 := hbel.size
  clear b7
  go_wp2_with fail
  refine (toIntS_any _ _ _ _ _ ⟨HL0.out, hA0.more hbel.size⟩ (by omega)).mono ?_
  rintro e W8 ⟨B_oT0, rfl, oT0, b8⟩
  have ap_oV_oT0 := Lib.hid (apart_of oV (Nat.le_refl _) oT0)
  have ap_oX0_oT0 := Lib.hid (apart_of oX0 (Nat.le_refl _) oT0)
  have ap_oX1_oT0 := Lib.hid (apart_of oX1 (Nat.le_refl _) oT0)
  have ap_oG_oT0 := Lib.hid (apart_of oG (Nat.le_refl _) oT0)
  replace hA0 := hA0.below (b8.mono hbel.size)
  replace hA1 := hA1.below (b8.mono hbel.size)
  replace oV := own_below oV b8
  replace oX0 := own_below oX0 b8
  replace oX1 := own_below oX1 b8
  replace oG := own_below oG b8
  replace hbel := hbel.trans (b8.mono hbel.size)
  have hbs_oT0 : w.heap.size ≤ W7.heap.size := hs_W7
  have hs_W8 := hbel.size
  clear b8
  go_wp2_with fail
  refine (eqIntS_any _ _ _ _ _ _ _ _ _ (RI.of_own oX0) (RI.of_own oT0) (by omega)).mono ?_
  rintro e W9 ⟨rfl, b9⟩
  replace hA0 := hA0.below (b9.mono hbel.size)
  replace hA1 := hA1.below (b9.mono hbel.size)
  replace oV := own_below oV b9
  replace oX0 := own_below oX0 b9
  replace oX1 := own_below oX1 b9
  replace oG := own_below oG b9
  replace oT0 := own_below oT0 b9
  replace hbel := hbel.trans (b9.mono hbel.size)
  have hs_W9 := hbel.size
  clear b9
  clear oT0
  go_wp2_with fail
  refine (toIntS_any _ _ _ _ _ ⟨HL1.out, hA1.more hbel.size⟩ (by omega)).mono ?_
  rintro e W10 ⟨B_oT1, rfl, oT1, b10⟩
  have ap_oV_oT1 := Lib.hid (apart_of oV (Nat.le_refl _) oT1)
  have ap_oX0_oT1 := Lib.hid (apart_of oX0 (Nat.le_refl _) oT1)
  have ap_oX1_oT1 := Lib.hid (apart_of oX1 (Nat.le_refl _) oT1)
  have ap_oG_oT1 := Lib.hid (apart_of oG (Nat.le_refl _) oT1)
  replace hA0 := hA0.below (b10.mono hbel.size)
  replace hA1 := hA1.below (b10.mono hbel.size)
  replace oV := own_below oV b10
  replace oX0 := own_below oX0 b10
  replace oX1 := own_below oX1 b10
  replace oG := own_below oG b10
  replace hbel := hbel.trans (b10.mono hbel.size)
  have hbs_oT1 : w.heap.size ≤ W9.heap.size := hs_W9
  have hs_W10 := hbel.size
  clear b10
  go_wp2_with fail
  refine (eqIntS_any _ _ _ _ _ _ _ _ _ (RI.of_own oX1) (RI.of_own oT1) (by omega)).mono ?_
  rintro e W11 ⟨rfl, b11⟩
  replace hA0 := hA0.below (b11.mono hbel.size)
  replace hA1 := hA1.below (b11.mono hbel.size)
  replace oV := own_below oV b11
  replace oX0 := own_below oX0 b11
  replace oX1 := own_below oX1 b11
  replace oG := own_below oG b11
  replace oT1 := own_below oT1 b11
  replace hbel := hbel.trans (b11.mono hbel.size)
  have hs_W11 := hbel.size
  clear b11
  clear oT1
  go_wp2_with fail
  refine (mark_at _ _ _ _ (1) _ _ _ oX0 (by omega) (by omega) (by omega)).mono ?_
  rintro e W12 ⟨rfl, oX0', gr⟩
  replace hA0 := hA0.grown gr hbel.size (fun g eg => Nat.le_trans hbs_oX0 (oX0.lt g eg).1)
  replace hA1 := hA1.grown gr hbel.size (fun g eg => Nat.le_trans hbs_oX0 (oX0.lt g eg).1)
  replace oV := own_apart oV oX0 gr ap_oV_oX0.out
  replace oX1 := own_apart oX1 oX0 gr (fun g e1 e2 => ap_oX0_oX1.out g e2 e1)
  replace oG := own_apart oG oX0 gr (fun g e1 e2 => ap_oX0_oG.out g e2 e1)
  replace hbel := below_grown hbel oX0 hbs_oX0 gr
  have hs_W12 := hbel.size
  replace oX0 := oX0'
  clear gr
  go_wp2_with fail
  refine (mark_at _ _ _ _ (1 + len0) _ _ _ oX1 (by omega) (by omega) (by omega)).mono ?_
  rintro e W13 ⟨rfl, oX1', gr⟩
  replace hA0 := hA0.grown gr hbel.size (fun g eg => Nat.le_trans hbs_oX1 (oX1.lt g eg).1)
  replace hA1 := hA1.grown gr hbel.size (fun g eg => Nat.le_trans hbs_oX1 (oX1.lt g eg).1)
  replace oV := own_apart oV oX1 gr ap_oV_oX1.out
  replace oX0 := own_apart oX0 oX1 gr ap_oX0_oX1.out
  replace oG := own_apart oG oX1 gr (fun g e1 e2 => ap_oX1_oG.out g e2 e1)
  replace hbel := below_grown hbel oX1 hbs_oX1 gr
  have hs_W13 := hbel.size
  replace oX1 := oX1'
  clear gr
  go_wp2_with fail
  refine (eqIntS_any _ _ _ _ _ _ _ _ _ (RI.of_own oG) (RI.of_own oV) (by omega)).mono ?_
  rintro e W14 ⟨rfl, b14⟩
  replace hA0 := hA0.below (b14.mono hbel.size)
  replace hA1 := hA1.below (b14.mono hbel.size)
  replace oV := own_below oV b14
  replace oX0 := own_below oX0 b14
  replace oX1 := own_below oX1 b14
  replace oG := own_below oG b14
  replace hbel := hbel.trans (b14.mono hbel.size)
  have hs_W14 := hbel.size
  clear b14
  go_wp2_with fail
  refine (mark_at _ _ _ _ (1) _ _ _ oG (by omega) (by omega) (by omega)).mono ?_
  rintro e W15 ⟨rfl, oG', gr⟩
  replace hA0 := hA0.grown gr hbel.size (fun g eg => Nat.le_trans hbs_oG (oG.lt g eg).1)
  replace hA1 := hA1.grown gr hbel.size (fun g eg => Nat.le_trans hbs_oG (oG.lt g eg).1)
  replace oV := own_apart oV oG gr ap_oV_oG.out
  replace oX0 := own_apart oX0 oG gr ap_oX0_oG.out
  replace oX1 := own_apart oX1 oG gr ap_oX1_oG.out
  replace hbel := below_grown hbel oG hbs_oG gr
  have hs_W15 := hbel.size
  replace oG := oG'
  clear gr
  go_wp2_with fail
  refine (held_at _ _ _ 1 _ _ (RI.of_own oG) (by omega) (by omega) (by omega)).mono ?_
  rintro e w' ⟨rfl, rfl⟩
  go_wp2_with fail
  refine (toIntS_any _ _ _ _ _ ⟨HL0.out, hA0.more hbel.size⟩ (by omega)).mono ?_
  rintro e W16 ⟨B_oR0, rfl, oR0, b16⟩
  have ap_oV_oR0 := Lib.hid (apart_of oV (Nat.le_refl _) oR0)
  have ap_oX0_oR0 := Lib.hid (apart_of oX0 (Nat.le_refl _) oR0)
  have ap_oX1_oR0 := Lib.hid (apart_of oX1 (Nat.le_refl _) oR0)
  have ap_oG_oR0 := Lib.hid (apart_of oG (Nat.le_refl _) oR0)
  replace hA0 := hA0.below (b16.mono hbel.size)
  replace hA1 := hA1.below (b16.mono hbel.size)
  replace oV := own_below oV b16
  replace oX0 := own_below oX0 b16
  replace oX1 := own_below oX1 b16
  replace oG := own_below oG b16
  replace hbel := hbel.trans (b16.mono hbel.size)
  have hbs_oR0 : w.heap.size ≤ W15.heap.size := hs_W15
  have hs_W16 := hbel.size
  clear b16
  go_wp2_with fail
  refine (toIntS_any _ _ _ _ _ ⟨HL1.out, hA1.more hbel.size⟩ (by omega)).mono ?_
  rintro e W17 ⟨B_oR1, rfl, oR1, b17⟩
  have ap_oV_oR1 := Lib.hid (apart_of oV (Nat.le_refl _) oR1)
  have ap_oX0_oR1 := Lib.hid (apart_of oX0 (Nat.le_refl _) oR1)
  have ap_oX1_oR1 := Lib.hid (apart_of oX1 (Nat.le_refl _) oR1)
  have ap_oG_oR1 := Lib.hid (apart_of oG (Nat.le_refl _) oR1)
  have ap_oR0_oR1 := Lib.hid (apart_of oR0 (Nat.le_refl _) oR1)
  replace hA0 := hA0.below (b17.mono hbel.size)
  replace hA1 := hA1.below (b17.mono hbel.size)
  replace oV := own_below oV b17
  replace oX0 := own_below oX0 b17
  replace oX1 := own_below oX1 b17
  replace oG := own_below oG b17
  replace oR0 := own_below oR0 b17
  replace hbel := hbel.trans (b17.mono hbel.size)
  have hbs_oR1 : w.heap.size ≤ W16.heap.size := hs_W16
  have hs_W17 := hbel.size
  clear b17
  go_wp2_with fail
  refine (implAT_any _ _ _ _ _ _ _ _ _ (RI.of_own oR0) (RI.of_own oR1)).mono ?_
  rintro e W18 ⟨v_, rfl, oH, b18⟩
  obtain ⟨A_oH, c_oH, rfl⟩ := own_slice oH
  have ap_oV_oH := Lib.hid (apart_of oV (Nat.le_refl _) oH)
  have ap_oX0_oH := Lib.hid (apart_of oX0 (Nat.le_refl _) oH)
  have ap_oX1_oH := Lib.hid (apart_of oX1 (Nat.le_refl _) oH)
  have ap_oG_oH := Lib.hid (apart_of oG (Nat.le_refl _) oH)
  have ap_oR0_oH := Lib.hid (apart_of oR0 (Nat.le_refl _) oH)
  have ap_oR1_oH := Lib.hid (apart_of oR1 (Nat.le_refl _) oH)
  replace hA0 := hA0.below (b18.mono hbel.size)
  replace hA1 := hA1.below (b18.mono hbel.size)
  replace oV := own_below oV b18
  replace oX0 := own_below oX0 b18
  replace oX1 := own_below oX1 b18
  replace oG := own_below oG b18
  replace oR0 := own_below oR0 b18
  replace oR1 := own_below oR1 b18
  replace hbel := hbel.trans (b18.mono hbel.size)
  have hbs_oH : w.heap.size ≤ W17.heap.size := hs_W17
  have hs_W18 := hbel.size
  clear b18
  go_wp2_with fail
  refine (eqIntS_any _ _ _ _ _ _ _ _ _ (RI.of_own oH) (RI.of_own oV) (by omega)).mono ?_
  rintro e W19 ⟨rfl, b19⟩
  replace hA0 := hA0.below (b19.mono hbel.size)
  replace hA1 := hA1.below (b19.mono hbel.size)
  replace oV := own_below oV b19
  replace oX0 := own_below oX0 b19
  replace oX1 := own_below oX1 b19
  replace oG := own_below oG b19
  replace oR0 := own_below oR0 b19
  replace oR1 := own_below oR1 b19
  replace oH := own_below oH b19
  replace hbel := hbel.trans (b19.mono hbel.size)
  have hs_W19 := hbel.size
  clear b19
  go_wp2_with fail
  refine (held_at _ _ _ 1 _ _ (RI.of_own oG) (by omega) (by omega) (by omega)).mono ?_
  rintro e w' ⟨rfl, rfl⟩
  go_wp2
  go_ret
  exact ⟨rfl, hbel⟩

/-! ### THE ROW's STEP: WRITTEN OUT: LEAVE IT -/
set_option maxRecDepth 100000 in
theorem lifted (os : Os) (started : os.Started) (H : Type) (enc : TypeId × Value → H) :
    ReturnsInHanded {} Try.checked os 4 .any (Rows.fnExactArrowTimesSpec.pre6 enc Try.prog Try.f4 Rows.fnExactArrowTimesRow.domain false) (Rows.fnExactArrowTimesSpec.post enc Try.prog Try.f4 false true false false) := by
  refine returnsInHanded_of_change (C := Try.checked) own started (by kernel_rfl) Try.func4
    (ChangeSpec.witness6 (enc := enc) (C := Try.checked) false ⟨#[], #[.slice none 0 0, .slice none 0 0], []⟩ 8 (by kernel_rfl) (by kernel_rfl) (by kernel_rfl) (by kernel_rfl)) ?_
  intro W base args ds gs before hval0 hW hcnd _
  have hval : ∀ (j : Nat) t v, Try.f4.params[j]? = some t → args[j]? = some v → Value.okWide Try.prog W .any base t v := hval0
  have hW' := hW
  obtain ⟨p, q, hA0, hV, rfl, hfz, hnd⟩ := hW
  have hA : DataW.TrodAll enc Try.prog W 0 (fun _ => true) true Try.f4.params.toList args.toList ds p := hA0
  rw [Try.params4] at hA hval
  obtain ⟨v0, vs0, d0, ds0, p0, q0, hargs, rfl, rfl, h0, r0⟩ := trodAll_cons hA
  obtain ⟨v1, vs1, d1, ds1, p1, q1, rfl, rfl, rfl, h1, r1⟩ := trodAll_cons r0
  obtain ⟨rfl, rfl, rfl⟩ := trodAll_nil r1
  obtain rfl : args = #[v0, v1] := by cases args; simp_all
  obtain ⟨rfl, rfl⟩ := trodVars_none hV
  obtain ⟨a0, len0, cap0, rfl⟩ := okWide_slice Try.underlying22 (hval 0 22 v0 rfl rfl)
  have k0 := h0
  have lt0 : ∀ x ∈ p0, x.block < W.heap.size := by obtain ⟨m, hm⟩ := k0; exact DataW.trod_lt m _ _ _ hm
  obtain ⟨z0, w0⟩ : ∃ zs, IsRow .i64 W a0 len0 cap0 zs := by
    obtain ⟨fuel, hf⟩ := h0
    rcases open_ints Try.underlying22 Try.underlying3 (by kernel_rfl) hf with ⟨hcs, _⟩ | ⟨x, l, c, zs, hcs, _, hl, hm, hz, _, hcell, hwz⟩
    · simp [Value.cells] at hcs
      obtain ⟨rfl, rfl, rfl⟩ := hcs
      exact ⟨[], .inl ⟨rfl, rfl, rfl, rfl⟩⟩
    · simp [Value.cells] at hcs
      obtain ⟨rfl, rfl, rfl⟩ := hcs
      exact ⟨zs, .inr ⟨_, rfl, hl, hm, by simpa using hz, hcell, hwz⟩⟩
  obtain ⟨a1, len1, cap1, rfl⟩ := okWide_slice Try.underlying22 (hval 1 22 v1 rfl rfl)
  have k1 := h1
  have lt1 : ∀ x ∈ p1, x.block < W.heap.size := by obtain ⟨m, hm⟩ := k1; exact DataW.trod_lt m _ _ _ hm
  obtain ⟨z1, w1⟩ : ∃ zs, IsRow .i64 W a1 len1 cap1 zs := by
    obtain ⟨fuel, hf⟩ := h1
    rcases open_ints Try.underlying22 Try.underlying3 (by kernel_rfl) hf with ⟨hcs, _⟩ | ⟨x, l, c, zs, hcs, _, hl, hm, hz, _, hcell, hwz⟩
    · simp [Value.cells] at hcs
      obtain ⟨rfl, rfl, rfl⟩ := hcs
      exact ⟨[], .inl ⟨rfl, rfl, rfl, rfl⟩⟩
    · simp [Value.cells] at hcs
      obtain ⟨rfl, rfl, rfl⟩ := hcs
      exact ⟨zs, .inr ⟨_, rfl, hl, hm, by simpa using hz, hcell, hwz⟩⟩
  clear hA0 hval0
  refine (walk a0 len0 cap0 z0 a1 len1 cap1 z1 W w0 w1).mono fun e W' ⟨he, bel⟩ => ?_
  subst he
  exact ⟨_, rfl, _, _, _, [], _, [], hW', trodAll_mk1 (shut_bool Try.underlying4 _), (trodAll_cons_mk (Below.trod laidOut (by kernel_rfl) (of_decide_eq_true (by kernel_rfl)) k0 bel lt0) (trodAll_cons_mk (Below.trod laidOut (by kernel_rfl) (of_decide_eq_true (by kernel_rfl)) k1 bel lt1) trodAll_mk0)), rfl, bel.frame _, fun h => by cases h⟩

theorem over : Rows.fnExactArrowTimesRow.holds Try.pinned (OpenSpec.ofChange Rows.fnExactArrowTimesSpec) :=
  OpenClaim.holds_of_wide 4 Try.f4 rfl rfl rfl rfl rfl rfl rfl ⟨rfl, rfl, rfl, rfl, rfl⟩ rfl rfl rfl rfl rfl (by kernel_rfl) Try.func4 (by kernel_rfl)
    (of_decide_eq_true (by kernel_rfl)) (by unfold Func.isWrapper; first | (rw [if_pos (by decide +kernel)]; kernel_rfl) | (rw [if_neg (by decide +kernel)]; exact ⟨rfl, rfl⟩))
    (fun os started H enc _ => lifted os started H enc)

/-- ████ THE STATEMENT ████ -/
theorem proved : Rows.FnExactArrowTimesSaid := over
#print axioms proved
end Go.Proofs.Ytoomeimloaloaaa.fnExactArrowTimes
