/-
  FnExactWaysShape: for every input the law returns true and leaves its arguments as they were. No condition.
-/
import Derived.Test.YtckppfgooflooaaRows
import Derived.Test.YtckppfgooflooaaMF
import Derived.Test.YtckppfgooflooaaMG
import Derived.Test.YtckppfgooflooaaMH
import Derived.Test.YtckppfgooflooaaMI
import Derived.Test.YtckppfgooflooaaMJ
import Derived.Test.YtckppfgooflooaaMK
import Derived.WalkKit
import Derived.Deep.QuietTactic
import Derived.BigQuiet
import Derived.Outline
import Derived.ProofKit
import Derived.OpenShut
import Derived.ShutString
import Derived.ChangeOld
import Derived.Below
namespace Go.Proofs.Ytckppfgooflooaa.fnExactWaysShape
set_option maxRecDepth 100000
open Go.ChangeShapes Go.WideShapes Go.ChangeAt Go.RowKit
open Go.ChangeMaps (open_string shut_string)
set_option linter.unusedVariables false

theorem own : ownKnob Try.prog.godebug = none := by kernel_rfl
theorem laidOut : laidOutB Try.prog = true := by kernel_rfl

def IsRow (k : IntKind) (w : World) (a : Option Addr) (len cap : Nat) (zs : List Int) : Prop :=
  (a = none ∧ len = 0 ∧ cap = 0 ∧ zs = []) ∨
  ∃ x, a = some x ∧ len ≤ cap ∧ cap ≤ maxLen ∧ zs.length = cap ∧ (∀ i, i < zs.length → w.cell? (x.add i) = some (.int k (zs.getD i 0))) ∧ ∀ n ∈ zs, (Lit.int k n).wf = true

theorem ri_of {w : World} {a : Option Addr} {len cap : Nat} {zs : List Int} (h : IsRow .i64 w a len cap zs) : RI w a len (zs.take len) := by
  rcases h with ⟨rfl, rfl, _, rfl⟩ | ⟨x, rfl, hlc, _, hz, hc, _⟩
  · exact ⟨rfl, Reads.none_⟩
  · refine ⟨by simp; omega, by simp [ivs]; omega, fun hn => ⟨x, rfl, ?_, ?_⟩⟩
    · have := block_lt_of_cell (hc 0 (by omega)); rwa [block_of_add] at this
    · intro j u hu
      have hj : j < (zs.take len).length := by
        rcases Nat.lt_or_ge j (zs.take len).length with h | h
        · exact h
        · rw [List.getElem?_eq_none (by simpa [ivs] using h)] at hu; cases hu
      have hjl : j < len := by simp at hj; omega
      rw [ivs_get, List.getElem?_take_of_lt hjl] at hu
      rw [hc j (by omega), ← hu, List.getD_eq_getElem?_getD, List.getElem?_eq_getElem (by omega)]
      rfl

set_option maxHeartbeats 4000000 in
theorem walk (a0 : Option Addr) (len0 cap0 : Nat) (z0 : List Int) (w : World) (w0 : IsRow .i64 w a0 len0 cap0 z0) :
    Calls Try.prog 6 #[.slice a0 len0 cap0] w fun e w' => e = .returned (.bool true) ∧ Below w.heap.size w w' := by
  have h0 := ri_of w0
  generalize z0.take len0 = zs0 at h0
  clear w0
  have HL0 := Lib.hid h0.1
  have HA0 := Lib.hid h0
  clear h0
  by_cases hbig0 : 1048576 < len0
  · go_enter Try.func6, Try.ntmps6
    go_wp2
    go_ret
    exact ⟨rfl, Below.refl _ _⟩
  have hR0 := shCL_le zs0
  have hR1 := shYL_le zs0
  have hzl0 : zs0.length ≤ 1048576 := by have := HL0.out; omega
  have hbel : Below w.heap.size w w := Below.refl _ _
  go_enter Try.func6, Try.ntmps6
  go_wp2_with fail
  refine (toIntS_any _ _ _ _ _ (HA0.out.below hbel) (by omega)).mono ?_
  rintro e W1 ⟨B_oS0, rfl, o_, b⟩
  replace hbel := hbel.trans (b.mono hbel.size)
  have hs_W1 := b.size
  clear b
  have oS0 := OI.ofn HL0.out o_
  clear o_
  go_wp2_with fail
  refine (specShape_any _ _ _ _ _ (ri_oi_ oS0) (by omega)).mono ?_
  rintro e W2 ⟨v0_, v1_, mid_oV, rfl, m1_oV, m2_oV, o1_, o2_, b⟩
  replace oS0 := oS0.below b
  replace hbel := hbel.trans (b.mono hbel.size)
  have hs_W2 := b.size
  clear b
  have oV0 := o1_
  clear o1_
  obtain ⟨A_oV0, n_oV0, c_oV0, rfl, hn_oV0⟩ := oV0.form_
  have hb_oV0 : n_oV0 ≤ 1048576 := by omega
  clear hn_oV0
  have oV1 := o2_
  clear o2_
  obtain ⟨A_oV1, n_oV1, c_oV1, rfl, hn_oV1⟩ := oV1.form_
  have hb_oV1 : n_oV1 ≤ 1048576 := by omega
  clear hn_oV1
  clear oS0
  go_wp2_with fail
  refine (toIntS_any _ _ _ _ _ (HA0.out.below hbel) (by omega)).mono ?_
  rintro e W3 ⟨B_oX0, rfl, o_, b⟩
  replace oV0 := oV0.below b
  replace oV1 := oV1.below b
  replace hbel := hbel.trans (b.mono hbel.size)
  have hs_W3 := b.size
  clear b
  have oX0 := OI.ofn HL0.out o_
  clear o_
  go_wp2_with fail
  refine (implShape_any _ _ _ _ _ (ri_oi_ oX0) (by omega)).mono ?_
  rintro e W4 ⟨v0_, v1_, mid_oG, rfl, m1_oG, m2_oG, o1_, o2_, b⟩
  replace oV0 := oV0.below b
  replace oV1 := oV1.below b
  replace oX0 := oX0.below b
  replace hbel := hbel.trans (b.mono hbel.size)
  have hs_W4 := b.size
  clear b
  have oG0 := o1_
  clear o1_
  obtain ⟨A_oG0, n_oG0, c_oG0, rfl, hn_oG0⟩ := oG0.form_
  have hb_oG0 : n_oG0 ≤ 1048576 := by omega
  clear hn_oG0
  have oG1 := o2_
  clear o2_
  obtain ⟨A_oG1, n_oG1, c_oG1, rfl, hn_oG1⟩ := oG1.form_
  have hb_oG1 : n_oG1 ≤ 1048576 := by omega
  clear hn_oG1
  go_wp2_with fail
  refine (eqIntS_any _ _ _ _ _ _ _ _ _ (ri_oi_ oG0) (ri_oi_ oV0) (by omega)).mono ?_
  rintro e W5 ⟨rfl, b⟩
  replace oV0 := oV0.below b
  replace oV1 := oV1.below b
  replace oX0 := oX0.below b
  replace oG0 := oG0.below b
  replace oG1 := oG1.below b
  replace hbel := hbel.trans (b.mono hbel.size)
  have hs_W5 := b.size
  clear b
  go_wp2_with fail
  refine (eqIntS_any _ _ _ _ _ _ _ _ _ (ri_oi_ oG1) (ri_oi_ oV1) (by omega)).mono ?_
  rintro e W6 ⟨rfl, b⟩
  replace oV0 := oV0.below b
  replace oV1 := oV1.below b
  replace oX0 := oX0.below b
  replace oG0 := oG0.below b
  replace oG1 := oG1.below b
  replace hbel := hbel.trans (b.mono hbel.size)
  have hs_W6 := b.size
  clear b
  go_wp2_with fail
  refine (toIntS_any _ _ _ _ _ (HA0.out.below hbel) (by omega)).mono ?_
  rintro e W7 ⟨B_oT0, rfl, o_, b⟩
  replace oV0 := oV0.below b
  replace oV1 := oV1.below b
  replace oX0 := oX0.below b
  replace oG0 := oG0.below b
  replace oG1 := oG1.below b
  replace hbel := hbel.trans (b.mono hbel.size)
  have hs_W7 := b.size
  clear b
  have oT0 := OI.ofn HL0.out o_
  clear o_
  go_wp2_with fail
  refine (eqIntS_any _ _ _ _ _ _ _ _ _ (ri_oi_ oX0) (ri_oi_ oT0) (by omega)).mono ?_
  rintro e W8 ⟨rfl, b⟩
  replace oV0 := oV0.below b
  replace oV1 := oV1.below b
  replace oX0 := oX0.below b
  replace oG0 := oG0.below b
  replace oG1 := oG1.below b
  replace oT0 := oT0.below b
  replace hbel := hbel.trans (b.mono hbel.size)
  have hs_W8 := b.size
  clear b
  clear oT0
  go_wp2_with fail
  refine (mark_oi (W2.heap.size) (W3.heap.size) (1) _ _ _ _ _ _ oX0 (by omega) (by omega) (by omega)).mono ?_
  rintro e W9 ⟨rfl, o_, bt⟩
  replace oV0 := oV0.btw bt (by omega)
  replace oV1 := oV1.btw bt (by omega)
  replace oG0 := oG0.btw bt (by omega)
  replace oG1 := oG1.btw bt (by omega)
  replace hbel := hbel.trans (bt.below (by omega) hbel.size)
  replace oX0 := o_
  have hs_W9 := bt.size
  clear bt
  clear oX0
  go_wp2_with fail
  refine (eqIntS_any _ _ _ _ _ _ _ _ _ (ri_oi_ oG0) (ri_oi_ oV0) (by omega)).mono ?_
  rintro e W10 ⟨rfl, b⟩
  replace oV0 := oV0.below b
  replace oV1 := oV1.below b
  replace oG0 := oG0.below b
  replace oG1 := oG1.below b
  replace hbel := hbel.trans (b.mono hbel.size)
  have hs_W10 := b.size
  clear b
  go_wp2_with fail
  refine (eqIntS_any _ _ _ _ _ _ _ _ _ (ri_oi_ oG1) (ri_oi_ oV1) (by omega)).mono ?_
  rintro e W11 ⟨rfl, b⟩
  replace oV0 := oV0.below b
  replace oV1 := oV1.below b
  replace oG0 := oG0.below b
  replace oG1 := oG1.below b
  replace hbel := hbel.trans (b.mono hbel.size)
  have hs_W11 := b.size
  clear b
  go_wp2_with fail
  refine (mark_oi (W3.heap.size) (mid_oG) (1) _ _ _ _ _ _ oG0 (by omega) (by omega) (by omega)).mono ?_
  rintro e W12 ⟨rfl, o_, bt⟩
  replace oV0 := oV0.btw bt (by omega)
  replace oV1 := oV1.btw bt (by omega)
  replace oG1 := oG1.btw bt (by omega)
  replace hbel := hbel.trans (bt.below (by omega) hbel.size)
  replace oG0 := o_
  have hs_W12 := bt.size
  clear bt
  go_wp2_with fail
  refine (mark_oi (mid_oG) (W4.heap.size) (1 + (shCL zs0).length) _ _ _ _ _ _ oG1 (by omega) (by omega) (by omega)).mono ?_
  rintro e W13 ⟨rfl, o_, bt⟩
  replace oV0 := oV0.btw bt (by omega)
  replace oV1 := oV1.btw bt (by omega)
  replace oG0 := oG0.btw bt (by omega)
  replace hbel := hbel.trans (bt.below (by omega) hbel.size)
  replace oG1 := o_
  have hs_W13 := bt.size
  clear bt
  go_wp2_with fail
  refine (heldOI_any 1 _ _ _ _ _ _ _ _ oG0 (by omega) (by omega) (by omega)).mono ?_
  rintro e w' ⟨rfl, rfl⟩
  go_wp2_with fail
  refine (heldOI_any (1 + (shCL zs0).length) _ _ _ _ _ _ _ _ oG1 (by omega) (by omega) (by omega)).mono ?_
  rintro e w' ⟨rfl, rfl⟩
  go_wp2_with fail
  refine (toIntS_any _ _ _ _ _ (HA0.out.below hbel) (by omega)).mono ?_
  rintro e W14 ⟨B_oR0, rfl, o_, b⟩
  replace oV0 := oV0.below b
  replace oV1 := oV1.below b
  replace oG0 := oG0.below b
  replace oG1 := oG1.below b
  replace hbel := hbel.trans (b.mono hbel.size)
  have hs_W14 := b.size
  clear b
  have oR0 := OI.ofn HL0.out o_
  clear o_
  go_wp2_with fail
  refine (implShape_any _ _ _ _ _ (ri_oi_ oR0) (by omega)).mono ?_
  rintro e W15 ⟨v0_, v1_, mid_oH, rfl, m1_oH, m2_oH, o1_, o2_, b⟩
  replace oV0 := oV0.below b
  replace oV1 := oV1.below b
  replace oG0 := oG0.below b
  replace oG1 := oG1.below b
  replace oR0 := oR0.below b
  replace hbel := hbel.trans (b.mono hbel.size)
  have hs_W15 := b.size
  clear b
  have oH0 := o1_
  clear o1_
  obtain ⟨A_oH0, n_oH0, c_oH0, rfl, hn_oH0⟩ := oH0.form_
  have hb_oH0 : n_oH0 ≤ 1048576 := by omega
  clear hn_oH0
  have oH1 := o2_
  clear o2_
  obtain ⟨A_oH1, n_oH1, c_oH1, rfl, hn_oH1⟩ := oH1.form_
  have hb_oH1 : n_oH1 ≤ 1048576 := by omega
  clear hn_oH1
  go_wp2_with fail
  refine (eqIntS_any _ _ _ _ _ _ _ _ _ (ri_oi_ oH0) (ri_oi_ oV0) (by omega)).mono ?_
  rintro e W16 ⟨rfl, b⟩
  replace oV0 := oV0.below b
  replace oV1 := oV1.below b
  replace oG0 := oG0.below b
  replace oG1 := oG1.below b
  replace oR0 := oR0.below b
  replace oH0 := oH0.below b
  replace oH1 := oH1.below b
  replace hbel := hbel.trans (b.mono hbel.size)
  have hs_W16 := b.size
  clear b
  go_wp2_with fail
  refine (eqIntS_any _ _ _ _ _ _ _ _ _ (ri_oi_ oH1) (ri_oi_ oV1) (by omega)).mono ?_
  rintro e W17 ⟨rfl, b⟩
  replace oV0 := oV0.below b
  replace oV1 := oV1.below b
  replace oG0 := oG0.below b
  replace oG1 := oG1.below b
  replace oR0 := oR0.below b
  replace oH0 := oH0.below b
  replace oH1 := oH1.below b
  replace hbel := hbel.trans (b.mono hbel.size)
  have hs_W17 := b.size
  clear b
  go_wp2_with fail
  refine (heldOI_any 1 _ _ _ _ _ _ _ _ oG0 (by omega) (by omega) (by omega)).mono ?_
  rintro e w' ⟨rfl, rfl⟩
  go_wp2_with fail
  refine (heldOI_any (1 + (shCL zs0).length) _ _ _ _ _ _ _ _ oG1 (by omega) (by omega) (by omega)).mono ?_
  rintro e w' ⟨rfl, rfl⟩
  go_wp2
  go_ret
  exact ⟨rfl, hbel⟩

/-! ### THE ROW's STEP -/
set_option maxRecDepth 100000 in
theorem lifted (os : Os) (started : os.Started) (H : Type) (enc : TypeId × Value → H) :
    ReturnsInHanded {} Try.checked os 6 .any (Rows.fnExactWaysShapeSpec.pre6 enc Try.prog Try.f6 Rows.fnExactWaysShapeRow.domain false) (Rows.fnExactWaysShapeSpec.post enc Try.prog Try.f6 false true false false) := by
  refine returnsInHanded_of_change (C := Try.checked) own started (by kernel_rfl) Try.func6
    (ChangeSpec.witness6 (enc := enc) (C := Try.checked) false ⟨#[], #[.slice none 0 0], []⟩ 8 (by kernel_rfl) (by kernel_rfl) (by kernel_rfl) (by kernel_rfl)) ?_
  intro W base args ds gs before hval0 hW hcnd _
  have hval : ∀ (j : Nat) t v, Try.f6.params[j]? = some t → args[j]? = some v → Value.okWide Try.prog W .any base t v := hval0
  have hW' := hW
  obtain ⟨p, q, hA0, hV, rfl, hfz, hnd⟩ := hW
  have hA : DataW.TrodAll enc Try.prog W 0 (fun _ => true) true Try.f6.params.toList args.toList ds p := hA0
  rw [Try.params6] at hA hval
  obtain ⟨v0, vs0, d0, ds0, p0, q0, hargs, rfl, rfl, h0, r0⟩ := trodAll_cons hA
  obtain ⟨rfl, rfl, rfl⟩ := trodAll_nil r0
  obtain rfl : args = #[v0] := by cases args; simp_all
  obtain ⟨rfl, rfl⟩ := trodVars_none hV
  obtain ⟨a0, len0, cap0, rfl⟩ := okWide_slice Try.underlying27 (hval 0 27 v0 rfl rfl)
  have k0 := h0
  have lt0 : ∀ x ∈ p0, x.block < W.heap.size := by obtain ⟨m, hm⟩ := k0; exact DataW.trod_lt m _ _ _ hm
  obtain ⟨z0, w0⟩ : ∃ zs, IsRow .i64 W a0 len0 cap0 zs := by
    obtain ⟨fuel, hf⟩ := h0
    rcases open_ints Try.underlying27 Try.underlying3 (by kernel_rfl) hf with ⟨hcs, _⟩ | ⟨x, l, c, zs, hcs, _, hl, hm, hz, _, hcell, hwz⟩
    · simp [Value.cells] at hcs
      obtain ⟨rfl, rfl, rfl⟩ := hcs
      exact ⟨[], .inl ⟨rfl, rfl, rfl, rfl⟩⟩
    · simp [Value.cells] at hcs
      obtain ⟨rfl, rfl, rfl⟩ := hcs
      exact ⟨zs, .inr ⟨_, rfl, hl, hm, by simpa using hz, hcell, hwz⟩⟩
  clear hA0 hval0
  refine (walk a0 len0 cap0 z0 W w0).mono fun e W' ⟨he, bel⟩ => ?_
  subst he
  exact ⟨_, rfl, _, _, _, [], _, [], hW', trodAll_mk1 (shut_bool Try.underlying4 _), (trodAll_cons_mk (Below.trod laidOut (by kernel_rfl) (of_decide_eq_true (by kernel_rfl)) k0 bel lt0) trodAll_mk0), rfl, bel.frame _, fun h => by cases h⟩

theorem over : Rows.fnExactWaysShapeRow.holds Try.pinned (OpenSpec.ofChange Rows.fnExactWaysShapeSpec) :=
  OpenClaim.holds_of_wide 6 Try.f6 rfl rfl rfl rfl rfl rfl rfl ⟨rfl, rfl, rfl, rfl, rfl⟩ rfl rfl rfl rfl rfl (by kernel_rfl) Try.func6 (by kernel_rfl)
    (of_decide_eq_true (by kernel_rfl)) (by unfold Func.isWrapper; first | (rw [if_pos (by decide +kernel)]; kernel_rfl) | (rw [if_neg (by decide +kernel)]; exact ⟨rfl, rfl⟩))
    (fun os started H enc _ => lifted os started H enc)

theorem proved : Rows.FnExactWaysShapeSaid := over
#print axioms proved
end Go.Proofs.Ytckppfgooflooaa.fnExactWaysShape
