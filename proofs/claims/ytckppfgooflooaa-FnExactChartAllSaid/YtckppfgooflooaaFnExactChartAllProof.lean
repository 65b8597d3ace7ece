/-
  FnExactChartAll: for every input the law returns true and leaves its arguments as they were. No condition.
-/
import Derived.Test.YtckppfgooflooaaRows
import Derived.Test.YtckppfgooflooaaMF
import Derived.Test.YtckppfgooflooaaMH
import Derived.Test.YtckppfgooflooaaMP
import Derived.WalkKit
import Derived.Deep.QuietTactic
import Derived.BigQuiet
import Derived.Outline
import Derived.ProofKit
import Derived.OpenShut
import Derived.ShutString
import Derived.ChangeOld
import Derived.Below
namespace Go.Proofs.Ytckppfgooflooaa.fnExactChartAll
set_option maxRecDepth 100000
open Go.ChangeShapes Go.WideShapes Go.ChangeAt Go.RowKit
open Go.ChangeMaps (open_string shut_string)
set_option linter.unusedVariables false

theorem own : ownKnob Try.prog.godebug = none := by kernel_rfl
theorem laidOut : laidOutB Try.prog = true := by kernel_rfl

def IsRow (k : IntKind) (w : World) (a : Option Addr) (len cap : Nat) (zs : List Int) : Prop :=
  (a = none ∧ len = 0 ∧ cap = 0 ∧ zs = []) ∨
  ∃ x, a = some x ∧ len ≤ cap ∧ cap ≤ maxLen ∧ zs.length = cap ∧ (∀ i, i < zs.length → w.cell? (x.add i) = some (.int k (zs.getD i 0))) ∧ ∀ n ∈ zs, (Lit.int k n).wf = true



set_option maxHeartbeats 4000000 in
theorem walk (a0 : Int) (w : World) (w0 : (Lit.int .i64 a0).wf = true) :
    Calls Try.prog 13 #[.int .i64 a0] w fun e w' => e = .returned (.bool true) ∧ Below w.heap.size w w' := by
  have hR := allCL_le a0
  have hRt := hR.2.1
  have hbel : Below w.heap.size w w := Below.refl _ _
  go_enter Try.func13, Try.ntmps13
  go_wp2_with fail
  refine (specAll_any _ _).mono ?_
  rintro e W1 ⟨v_, rfl, oV, b⟩
  replace hbel := hbel.trans (b.mono hbel.size)
  have hs_W1 := b.size
  clear b
  obtain ⟨A_oV, n_oV, c_oV, rfl, hn_oV⟩ := oV.form_
  have hb_oV : n_oV ≤ 1048576 := by have := hR.1; omega
  clear hn_oV
  go_wp2_with fail
  refine (implAll_any _ _).mono ?_
  rintro e W2 ⟨v_, rfl, oG, b⟩
  replace oV := oV.below b
  replace hbel := hbel.trans (b.mono hbel.size)
  have hs_W2 := b.size
  clear b
  obtain ⟨A_oG, n_oG, c_oG, rfl, hn_oG⟩ := oG.form_
  have hb_oG : n_oG ≤ 1048576 := by have := hR.1; omega
  clear hn_oG
  go_wp2_with fail
  refine (eqIntSS_any _ _ _ _ _ _ _ _ _ (rss_oss_ oG) (rss_oss_ oV) (by omega) hR.2.2).mono ?_
  rintro e W3 ⟨rfl, b⟩
  replace oV := oV.below b
  replace oG := oG.below b
  replace hbel := hbel.trans (b.mono hbel.size)
  have hs_W3 := b.size
  clear b
  go_wp2_with fail
  refine (markSS_any W1.heap.size W2.heap.size (1) _ _ _ _ _ _ oG (by omega) (by omega) (by omega) hR.2.2).mono ?_
  rintro e W4 ⟨rfl, o_, bt⟩
  replace oV := oV.btw bt (by omega)
  replace hbel := hbel.trans (bt.below (by omega) hbel.size)
  replace oG := o_
  have hs_W4 := bt.size
  clear bt
  go_wp2_with fail
  refine (heldSS_any 1 _ _ _ _ _ _ (rss_mk oG) (by omega) (by omega) (by omega) hR.2.2).mono ?_
  rintro e w' ⟨rfl, rfl⟩
  go_wp2_with fail
  refine (implAll_any _ _).mono ?_
  rintro e W5 ⟨v_, rfl, oH, b⟩
  replace oV := oV.below b
  replace oG := oG.below b
  replace hbel := hbel.trans (b.mono hbel.size)
  have hs_W5 := b.size
  clear b
  obtain ⟨A_oH, n_oH, c_oH, rfl, hn_oH⟩ := oH.form_
  have hb_oH : n_oH ≤ 1048576 := by have := hR.1; omega
  clear hn_oH
  go_wp2_with fail
  refine (eqIntSS_any _ _ _ _ _ _ _ _ _ (rss_oss_ oH) (rss_oss_ oV) (by omega) hR.2.2).mono ?_
  rintro e W6 ⟨rfl, b⟩
  replace oV := oV.below b
  replace oG := oG.below b
  replace oH := oH.below b
  replace hbel := hbel.trans (b.mono hbel.size)
  have hs_W6 := b.size
  clear b
  go_wp2_with fail
  refine (heldSS_any 1 _ _ _ _ _ _ (rss_mk oG) (by omega) (by omega) (by omega) hR.2.2).mono ?_
  rintro e w' ⟨rfl, rfl⟩
  go_wp2
  go_ret
  exact ⟨rfl, hbel⟩

/-! ### THE ROW's STEP -/
set_option maxRecDepth 100000 in
theorem lifted (os : Os) (started : os.Started) (H : Type) (enc : TypeId × Value → H) :
    ReturnsInHanded {} Try.checked os 13 .any (Rows.fnExactChartAllSpec.pre6 enc Try.prog Try.f13 Rows.fnExactChartAllRow.domain false) (Rows.fnExactChartAllSpec.post enc Try.prog Try.f13 false true false false) := by
  refine returnsInHanded_of_change (C := Try.checked) own started (by kernel_rfl) Try.func13
    (ChangeSpec.witness6 (enc := enc) (C := Try.checked) false ⟨#[], #[.int .i64 0], []⟩ 8 (by kernel_rfl) (by kernel_rfl) (by kernel_rfl) (by kernel_rfl)) ?_
  intro W base args ds gs before hval0 hW hcnd _
  have hval : ∀ (j : Nat) t v, Try.f13.params[j]? = some t → args[j]? = some v → Value.okWide Try.prog W .any base t v := hval0
  have hW' := hW
  obtain ⟨p, q, hA0, hV, rfl, hfz, hnd⟩ := hW
  have hA : DataW.TrodAll enc Try.prog W 0 (fun _ => true) true Try.f13.params.toList args.toList ds p := hA0
  rw [Try.params13] at hA hval
  obtain ⟨v0, vs0, d0, ds0, p0, q0, hargs, rfl, rfl, h0, r0⟩ := trodAll_cons hA
  obtain ⟨rfl, rfl, rfl⟩ := trodAll_nil r0
  obtain rfl : args = #[v0] := by cases args; simp_all
  obtain ⟨rfl, rfl⟩ := trodVars_none hV
  obtain ⟨a0, rfl, rfl, rfl, w0⟩ := open_int Try.underlying3 (hval 0 3 v0 rfl rfl) h0
  clear hA0 hval0
  refine (walk a0 W w0).mono fun e W' ⟨he, bel⟩ => ?_
  subst he
  exact ⟨_, rfl, _, _, _, [], _, [], hW', trodAll_mk1 (shut_bool Try.underlying4 _), (trodAll_cons_mk (shut_int Try.underlying3 w0) trodAll_mk0), rfl, bel.frame _, fun h => by cases h⟩

theorem over : Rows.fnExactChartAllRow.holds Try.pinned (OpenSpec.ofChange Rows.fnExactChartAllSpec) :=
  OpenClaim.holds_of_wide 13 Try.f13 rfl rfl rfl rfl rfl rfl rfl ⟨rfl, rfl, rfl, rfl, rfl⟩ rfl rfl rfl rfl rfl (by kernel_rfl) Try.func13 (by kernel_rfl)
    (of_decide_eq_true (by kernel_rfl)) (by unfold Func.isWrapper; first | (rw [if_pos (by decide +kernel)]; kernel_rfl) | (rw [if_neg (by decide +kernel)]; exact ⟨rfl, rfl⟩))
    (fun os started H enc _ => lifted os started H enc)

theorem proved : Rows.FnExactChartAllSaid := over
#print axioms proved
end Go.Proofs.Ytckppfgooflooaa.fnExactChartAll
