/-
  FnExactChartSet: for every input the law returns true and leaves its arguments as they were. No condition.
-/
import Derived.Test.YtdmobfjcbjengabRows
import Derived.Test.YtdmobfjcbjengabPost
import Derived.Test.YtdmobfjcbjengabSet
import Derived.WalkKit
import Derived.Deep.QuietTactic
import Derived.BigQuiet
import Derived.Outline
import Derived.ProofKit
import Derived.OpenShut
import Derived.ShutString
namespace Go.Proofs.Ytdmobfjcbjengab.fnExactChartSet
open Go.ChangeShapes Go.WideShapes Go.ChangeAt Go.RowKit
open Go.ChangeMaps (open_string shut_string)
set_option linter.unusedVariables false      -- a walk need not use every 'w<i>' (that an integer argument fits its kind)

theorem own : ownKnob Try.prog.godebug = none := by kernel_rfl



/-! ### STEP 1: THE WALK: the Go text returns true. 'Below w.heap.size w w'': the world has at most new blocks (Derived/RowKit3.lean). Part the cases AHEAD of 'go_enter' where a test parts the walk; take each callee by a contract of your own. -/
theorem walk (a0 : Int) (a1 : Int) (w0 : (Lit.int .i64 a0).wf = true) (w1 : (Lit.int .i64 a1).wf = true) (w : World) :
    Calls Try.prog 12 #[.int .i64 a0, .int .i64 a1] w fun e w' => e = .returned (.bool true) ∧ Below w.heap.size w w' := by
  have hL6 := seL_le a0 a1
  go_enter Try.func12, Try.ntmps12
  go_wp2_with fail
  refine (specSet_any _ _ _).mono ?_
  rintro e W1 ⟨v_, rfl, oV, b1⟩
  obtain ⟨A_oV, c_oV, rfl⟩ := own_slice oV
  have hbel := b1
  have hbs_oV : w.heap.size ≤ w.heap.size := Nat.le_refl _
  have hs_W1 := hbel.size
  clear b1
  go_wp2_with fail
  refine (implSet_any _ _ _).mono ?_
  rintro e W2 ⟨v_, rfl, oG, b2⟩
  obtain ⟨A_oG, c_oG, rfl⟩ := own_slice oG
  have ap_oV_oG := Lib.hid (apart_of oV (Nat.le_refl _) oG)
  replace oV := own_below oV b2
  replace hbel := hbel.trans (b2.mono hbel.size)
  have hbs_oG : w.heap.size ≤ W1.heap.size := hs_W1
  have hs_W2 := hbel.size
  clear b2
  go_wp2_with fail
  refine (eqIntS_any _ _ _ _ _ _ _ _ _ (RI.of_own oG) (RI.of_own oV) (by omega)).mono ?_
  rintro e W3 ⟨rfl, b3⟩
  replace oV := own_below oV b3
  replace oG := own_below oG b3
  replace hbel := hbel.trans (b3.mono hbel.size)
  have hs_W3 := hbel.size
  clear b3
  go_wp2_with fail
  refine (mark_at _ _ _ _ (1) _ _ _ oG (by omega) (by omega) (by omega)).mono ?_
  rintro e W4 ⟨rfl, oG', gr⟩
  replace oV := own_apart oV oG gr ap_oV_oG.out
  replace hbel := below_grown hbel oG hbs_oG gr
  have hs_W4 := hbel.size
  replace oG := oG'
  clear gr
  go_wp2_with fail
  refine (held_at _ _ _ 1 _ _ (RI.of_own oG) (by omega) (by omega) (by omega)).mono ?_
  rintro e w' ⟨rfl, rfl⟩
  go_wp2_with fail
  refine (implSet_any _ _ _).mono ?_
  rintro e W5 ⟨v_, rfl, oH, b5⟩
  obtain ⟨A_oH, c_oH, rfl⟩ := own_slice oH
  have ap_oV_oH := Lib.hid (apart_of oV (Nat.le_refl _) oH)
  have ap_oG_oH := Lib.hid (apart_of oG (Nat.le_refl _) oH)
  replace oV := own_below oV b5
  replace oG := own_below oG b5
  replace hbel := hbel.trans (b5.mono hbel.size)
  have hbs_oH : w.heap.size ≤ W4.heap.size := hs_W4
  have hs_W5 := hbel.size
  clear b5
  go_wp2_with fail
  refine (eqIntS_any _ _ _ _ _ _ _ _ _ (RI.of_own oH) (RI.of_own oV) (by omega)).mono ?_
  rintro e W6 ⟨rfl, b6⟩
  replace oV := own_below oV b6
  replace oG := own_below oG b6
  replace oH := own_below oH b6
  replace hbel := hbel.trans (b6.mono hbel.size)
  have hs_W6 := hbel.size
  clear b6
  go_wp2_with fail
  refine (held_at _ _ _ 1 _ _ (RI.of_own oG) (by omega) (by omega) (by omega)).mono ?_
  rintro e w' ⟨rfl, rfl⟩
  go_wp2
  go_ret
  exact ⟨rfl, hbel⟩
  -- go_enter Try.func12, Try.ntmps12
  -- go_wp2
  -- go_ret
  -- exact ⟨rfl, by repeat (first | exact Grown.refl _ | apply Grown.drew | apply Grown.alloc)⟩

/-! ### THE ROW's STEP: WRITTEN OUT: LEAVE IT -/
set_option maxRecDepth 100000 in
theorem lifted (os : Os) (started : os.Started) (H : Type) (enc : TypeId × Value → H) :
    ReturnsInHanded {} Try.checked os 12 .any (Rows.fnExactChartSetSpec.pre6 enc Try.prog Try.f12 Rows.fnExactChartSetRow.domain false) (Rows.fnExactChartSetSpec.post enc Try.prog Try.f12 false true false false) := by
  refine returnsInHanded_of_change (C := Try.checked) own started (by kernel_rfl) Try.func12
    (ChangeSpec.witness6 (enc := enc) (C := Try.checked) false ⟨#[], #[.int .i64 0, .int .i64 0], []⟩ 8 (by kernel_rfl) (by kernel_rfl) (by kernel_rfl) (by kernel_rfl)) ?_
  intro W base args ds gs before hval0 hW hcnd _
  have hval : ∀ (j : Nat) t v, Try.f12.params[j]? = some t → args[j]? = some v → Value.okWide Try.prog W .any base t v := hval0
  have hW' := hW
  obtain ⟨p, q, hA0, hV, rfl, hfz, hnd⟩ := hW
  have hA : DataW.TrodAll enc Try.prog W 0 (fun _ => true) true Try.f12.params.toList args.toList ds p := hA0
  rw [Try.params12] at hA hval
  obtain ⟨v0, vs0, d0, ds0, p0, q0, hargs, rfl, rfl, h0, r0⟩ := trodAll_cons hA
  obtain ⟨v1, vs1, d1, ds1, p1, q1, rfl, rfl, rfl, h1, r1⟩ := trodAll_cons r0
  obtain ⟨rfl, rfl, rfl⟩ := trodAll_nil r1
  obtain rfl : args = #[v0, v1] := by cases args; simp_all
  obtain ⟨rfl, rfl⟩ := trodVars_none hV
  obtain ⟨a0, rfl, rfl, rfl, w0⟩ := open_int Try.underlying3 (hval 0 3 v0 rfl rfl) h0
  obtain ⟨a1, rfl, rfl, rfl, w1⟩ := open_int Try.underlying3 (hval 1 3 v1 rfl rfl) h1
  clear hA0 hval0
  simp only [List.append_nil] at hW'
  refine (walk a0 a1 w0 w1 W).mono fun e W' ⟨he, hg⟩ => ?_
  subst he
  exact ⟨_, rfl, post_of_below (pa := []) (pv := []) hW' (fun _ _ _ => (trodAll_cons_mk (shut_bool Try.underlying4 _) trodAll_mk0)) (fun sp _ => (trodAll_cons_mk (shut_int Try.underlying3 w0) (trodAll_cons_mk (shut_int Try.underlying3 w1) trodAll_mk0))) (fun _ _ => rfl) rfl
    hg (ok_one (by kernel_rfl) rfl (okWide_bool_mk Try.underlying4 _))⟩

theorem over : Rows.fnExactChartSetRow.holds Try.pinned (OpenSpec.ofChange Rows.fnExactChartSetSpec) :=
  OpenClaim.holds_of_wide 12 Try.f12 rfl rfl rfl rfl rfl rfl rfl ⟨rfl, rfl, rfl, rfl, rfl⟩ rfl rfl rfl rfl rfl (by kernel_rfl) Try.func12 (by kernel_rfl)
    (of_decide_eq_true (by kernel_rfl)) (by unfold Func.isWrapper; first | (rw [if_pos (by decide +kernel)]; kernel_rfl) | (rw [if_neg (by decide +kernel)]; exact ⟨rfl, rfl⟩))
    (fun os started H enc _ => lifted os started H enc)

/-- ████ THE STATEMENT ████ -/
theorem proved : Rows.FnExactChartSetSaid :=
  over
#print axioms proved
end Go.Proofs.Ytdmobfjcbjengab.fnExactChartSet
