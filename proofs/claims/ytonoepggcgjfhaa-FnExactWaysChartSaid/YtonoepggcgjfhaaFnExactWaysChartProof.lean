/-
  FnExactWaysChart: for every input the law returns true and leaves its arguments as they were. No condition.
-/
import Derived.Test.YtonoepggcgjfhaaRows
import Derived.Test.YtonoepggcgjfhaaMF
import Derived.Test.YtonoepggcgjfhaaMR
import Derived.WalkKit
import Derived.Deep.QuietTactic
import Derived.BigQuiet
import Derived.Outline
import Derived.ProofKit
import Derived.OpenShut
import Derived.ShutString
import Derived.ChangeOld
import Derived.Below
namespace Go.Proofs.Ytonoepggcgjfhaa.fnExactWaysChart
set_option maxRecDepth 100000
open Go.ChangeShapes Go.WideShapes Go.ChangeAt Go.RowKit
open Go.ChangeMaps (open_string shut_string)
set_option linter.unusedVariables false

theorem own : ownKnob Try.prog.godebug = none := by kernel_rfl
theorem laidOut : laidOutB Try.prog = true := by kernel_rfl

def IsRow (k : IntKind) (w : World) (a : Option Addr) (len cap : Nat) (zs : List Int) : Prop :=
  (a = none ∧ len = 0 ∧ cap = 0 ∧ zs = []) ∨
  ∃ x, a = some x ∧ len ≤ cap ∧ cap ≤ maxLen ∧ zs.length = cap ∧ (∀ i, i < zs.length → w.cell? (x.add i) = some (.int k (zs.getD i 0))) ∧ ∀ n ∈ zs, (Lit.int k n).wf = true



set_option maxHeartbeats 4000000 in
theorem walk (a0 : Int) (a1 : Option Addr) (len1 cap1 : Nat) (z1 : List (List Int)) (a2 : Option Addr) (len2 cap2 : Nat) (z2 : List (List Int)) (w : World) (w0 : (Lit.int .i64 a0).wf = true) (w1 : IsRows w a1 len1 z1) (w2 : IsRows w a2 len2 z2) :
    Calls Try.prog 3 #[.int .i64 a0, .slice a1 len1 cap1, .slice a2 len2 cap2] w fun e w' => e = .returned (.bool true) ∧ Below w.heap.size w w' := by
  obtain ⟨h1, hm1, hx1⟩ := w1
  have HL1 := Lib.hid h1.1
  have HX1 := Lib.hid hx1
  have HA1 := Lib.hid h1
  clear h1 hx1
  generalize z1 = zs1 at HL1 HX1 HA1
  obtain ⟨h2, hm2, hx2⟩ := w2
  have HL2 := Lib.hid h2.1
  have HX2 := Lib.hid hx2
  have HA2 := Lib.hid h2
  clear h2 hx2
  generalize z2 = zs2 at HL2 HX2 HA2
  have hml1 : len1 ≤ 9223372036854775807 := Nat.le_trans hm1 (by unfold maxLen; omega)
  have HXL1 : Hid (∀ L ∈ zs1, L.length ≤ 9223372036854775807) := fun L hL => Nat.le_trans (HX1.out L hL) (by unfold maxLen; omega)
  have hml2 : len2 ≤ 9223372036854775807 := Nat.le_trans hm2 (by unfold maxLen; omega)
  have HXL2 : Hid (∀ L ∈ zs2, L.length ≤ 9223372036854775807) := fun L hL => Nat.le_trans (HX2.out L hL) (by unfold maxLen; omega)
  have hmin1 := szT_min (1048576) zs1 (by omega)
  by_cases hs1 : szT (1048576) zs1 < 0
  · go_enter Try.func3, Try.ntmps3
    go_wp2_with fail
    refine (szSS_any _ _ _ _ _ _ HA1.out (by omega) (by omega) hml1 HXL1.out).mono ?_
    rintro e w' ⟨rfl, rfl⟩
    go_wp2
    go_ret
    exact ⟨rfl, Below.refl _ _⟩
  have hf1 := szT_fits (by omega) (show 0 ≤ szT (1048576) zs1 by omega)
  rw [HL1.out] at hf1
  have HS1 := Lib.hid hf1.1
  have hq1 := hf1.2
  have HN1 : Hid (∀ L ∈ zs1, L.length ≤ 1048576) := fun L hL => by have := totL_of_mem hL; omega
  clear hf1 hmin1
  have hmin2 := szT_min (1048576 - (len1 : Int) - (totL zs1 : Int)) zs2 (by omega)
  by_cases hs2 : szT (1048576 - (len1 : Int) - (totL zs1 : Int)) zs2 < 0
  · go_enter Try.func3, Try.ntmps3
    go_wp2_with fail
    refine (szSS_any _ _ _ _ _ _ HA1.out (by omega) (by omega) hml1 HXL1.out).mono ?_
    rintro e w' ⟨rfl, rfl⟩
    rw [HS1.out]
    go_wp2_with fail
    refine (szSS_any _ _ _ _ _ _ HA2.out (by omega) (by omega) hml2 HXL2.out).mono ?_
    rintro e w' ⟨rfl, rfl⟩
    go_wp2
    go_ret
    exact ⟨rfl, Below.refl _ _⟩
  have hf2 := szT_fits (by omega) (show 0 ≤ szT (1048576 - (len1 : Int) - (totL zs1 : Int)) zs2 by omega)
  rw [HL2.out] at hf2
  have HS2 := Lib.hid hf2.1
  have hq2 := hf2.2
  have HN2 : Hid (∀ L ∈ zs2, L.length ≤ 1048576) := fun L hL => by have := totL_of_mem hL; omega
  clear hf2 hmin2
  have hR := wcL_le a0 zs1 zs2
  have hzl1 : totL zs1 ≤ 1048576 := by omega
  have hzl2 : totL zs2 ≤ 1048576 := by omega
  have hbel : Below w.heap.size w w := Below.refl _ _
  go_enter Try.func3, Try.ntmps3
  go_wp2_with fail
  refine (szSS_any _ _ _ _ _ _ HA1.out (by omega) (by omega) hml1 HXL1.out).mono ?_
  rintro e w' ⟨rfl, rfl⟩
  rw [HS1.out]
  go_wp2_with fail
  refine (szSS_any _ _ _ _ _ _ HA2.out (by omega) (by omega) hml2 HXL2.out).mono ?_
  rintro e w' ⟨rfl, rfl⟩
  rw [HS2.out]
  go_wp2_with fail
  refine (toIntSS_any _ _ _ _ _ (HA1.out.below hbel) (by omega) HN1.out).mono ?_
  rintro e W1 ⟨B_oS1, rfl, oS1, b⟩
  replace hbel := hbel.trans (b.mono hbel.size)
  have hs_W1 := b.size
  clear b
  go_wp2_with fail
  refine (toIntSS_any _ _ _ _ _ (HA2.out.below hbel) (by omega) HN2.out).mono ?_
  rintro e W2 ⟨B_oS2, rfl, oS2, b⟩
  replace oS1 := oS1.below b
  replace hbel := hbel.trans (b.mono hbel.size)
  have hs_W2 := b.size
  clear b
  go_wp2_with fail
  refine (specWaysChart_any _ _ _ _ _ _ _ _ _ _ (rss_oss_ oS1) (rss_oss_ oS2) (by omega) (by omega) HN1.out HN2.out).mono ?_
  rintro e W3 ⟨v_, rfl, o_, b⟩
  replace oS1 := oS1.below b
  replace oS2 := oS2.below b
  replace hbel := hbel.trans (b.mono hbel.size)
  have hs_W3 := b.size
  clear b
  have oV := OI.of o_
  clear o_
  obtain ⟨A_oV, n_oV, c_oV, rfl, hn_oV⟩ := oV.form_
  have hb_oV : n_oV ≤ 1048576 := by omega
  clear hn_oV
  clear oS1
  clear oS2
  go_wp2_with fail
  refine (toIntSS_any _ _ _ _ _ (HA1.out.below hbel) (by omega) HN1.out).mono ?_
  rintro e W4 ⟨B_oX1, rfl, oX1, b⟩
  replace oV := oV.below b
  replace hbel := hbel.trans (b.mono hbel.size)
  have hs_W4 := b.size
  clear b
  go_wp2_with fail
  refine (toIntSS_any _ _ _ _ _ (HA2.out.below hbel) (by omega) HN2.out).mono ?_
  rintro e W5 ⟨B_oX2, rfl, oX2, b⟩
  replace oV := oV.below b
  replace oX1 := oX1.below b
  replace hbel := hbel.trans (b.mono hbel.size)
  have hs_W5 := b.size
  clear b
  go_wp2_with fail
  refine (implWaysChart_any _ _ _ _ _ _ _ _ _ _ _ _ _ _ oX1 oX2 (by omega) (by omega) HN1.out HN2.out).mono ?_
  rintro e W6 ⟨v_, rfl, o_, b⟩
  replace oV := oV.below b
  replace oX1 := oX1.below b
  replace oX2 := oX2.below b
  replace hbel := hbel.trans (b.mono hbel.size)
  have hs_W6 := b.size
  clear b
  have oG := OI.of o_
  clear o_
  obtain ⟨A_oG, n_oG, c_oG, rfl, hn_oG⟩ := oG.form_
  have hb_oG : n_oG ≤ 1048576 := by omega
  clear hn_oG
  go_wp2_with fail
  refine (eqIntS_any _ _ _ _ _ _ _ _ _ (ri_oi_ oG) (ri_oi_ oV) (by omega)).mono ?_
  rintro e W7 ⟨rfl, b⟩
  replace oV := oV.below b
  replace oX1 := oX1.below b
  replace oX2 := oX2.below b
  replace oG := oG.below b
  replace hbel := hbel.trans (b.mono hbel.size)
  have hs_W7 := b.size
  clear b
  go_wp2_with fail
  refine (toIntSS_any _ _ _ _ _ (HA1.out.below hbel) (by omega) HN1.out).mono ?_
  rintro e W8 ⟨B_oT1, rfl, oT1, b⟩
  replace oV := oV.below b
  replace oX1 := oX1.below b
  replace oX2 := oX2.below b
  replace oG := oG.below b
  replace hbel := hbel.trans (b.mono hbel.size)
  have hs_W8 := b.size
  clear b
  go_wp2_with fail
  refine (eqIntSS_any _ _ _ _ _ _ _ _ _ (rss_oss_ oX1) (rss_oss_ oT1) (by omega) HN1.out).mono ?_
  rintro e W9 ⟨rfl, b⟩
  replace oV := oV.below b
  replace oX1 := oX1.below b
  replace oX2 := oX2.below b
  replace oG := oG.below b
  replace oT1 := oT1.below b
  replace hbel := hbel.trans (b.mono hbel.size)
  have hs_W9 := b.size
  clear b
  clear oT1
  go_wp2_with fail
  refine (toIntSS_any _ _ _ _ _ (HA2.out.below hbel) (by omega) HN2.out).mono ?_
  rintro e W10 ⟨B_oT2, rfl, oT2, b⟩
  replace oV := oV.below b
  replace oX1 := oX1.below b
  replace oX2 := oX2.below b
  replace oG := oG.below b
  replace hbel := hbel.trans (b.mono hbel.size)
  have hs_W10 := b.size
  clear b
  go_wp2_with fail
  refine (eqIntSS_any _ _ _ _ _ _ _ _ _ (rss_oss_ oX2) (rss_oss_ oT2) (by omega) HN2.out).mono ?_
  rintro e W11 ⟨rfl, b⟩
  replace oV := oV.below b
  replace oX1 := oX1.below b
  replace oX2 := oX2.below b
  replace oG := oG.below b
  replace oT2 := oT2.below b
  replace hbel := hbel.trans (b.mono hbel.size)
  have hs_W11 := b.size
  clear b
  clear oT2
  go_wp2_with fail
  refine (markSS_any W3.heap.size W4.heap.size (1) _ _ _ _ _ _ oX1 (by omega) (by omega) (by omega) HN1.out).mono ?_
  rintro e W12 ⟨rfl, o_, bt⟩
  replace oV := oV.btw bt (by omega)
  replace oX2 := oX2.btw bt (by omega)
  replace oG := oG.btw bt (by omega)
  replace hbel := hbel.trans (bt.below (by omega) hbel.size)
  replace oX1 := o_
  have hs_W12 := bt.size
  clear bt
  go_wp2_with fail
  refine (markSS_any W4.heap.size W5.heap.size (1 + totL zs1) _ _ _ _ _ _ oX2 (by omega) (by omega) (by omega) HN2.out).mono ?_
  rintro e W13 ⟨rfl, o_, bt⟩
  replace oV := oV.btw bt (by omega)
  replace oX1 := oX1.btw bt (by omega)
  replace oG := oG.btw bt (by omega)
  replace hbel := hbel.trans (bt.below (by omega) hbel.size)
  replace oX2 := o_
  have hs_W13 := bt.size
  clear bt
  clear oX1
  clear oX2
  go_wp2_with fail
  refine (eqIntS_any _ _ _ _ _ _ _ _ _ (ri_oi_ oG) (ri_oi_ oV) (by omega)).mono ?_
  rintro e W14 ⟨rfl, b⟩
  replace oV := oV.below b
  replace oG := oG.below b
  replace hbel := hbel.trans (b.mono hbel.size)
  have hs_W14 := b.size
  clear b
  go_wp2_with fail
  refine (mark_oi W5.heap.size W6.heap.size (1) _ _ _ _ _ _ oG (by omega) (by omega) (by omega)).mono ?_
  rintro e W15 ⟨rfl, o_, bt⟩
  replace oV := oV.btw bt (by omega)
  replace hbel := hbel.trans (bt.below (by omega) hbel.size)
  replace oG := o_
  have hs_W15 := bt.size
  clear bt
  go_wp2_with fail
  refine (heldOI_any 1 _ _ _ _ _ _ _ _ oG (by omega) (by omega) (by omega)).mono ?_
  rintro e w' ⟨rfl, rfl⟩
  go_wp2_with fail
  refine (toIntSS_any _ _ _ _ _ (HA1.out.below hbel) (by omega) HN1.out).mono ?_
  rintro e W16 ⟨B_oR1, rfl, oR1, b⟩
  replace oV := oV.below b
  replace oG := oG.below b
  replace hbel := hbel.trans (b.mono hbel.size)
  have hs_W16 := b.size
  clear b
  go_wp2_with fail
  refine (toIntSS_any _ _ _ _ _ (HA2.out.below hbel) (by omega) HN2.out).mono ?_
  rintro e W17 ⟨B_oR2, rfl, oR2, b⟩
  replace oV := oV.below b
  replace oG := oG.below b
  replace oR1 := oR1.below b
  replace hbel := hbel.trans (b.mono hbel.size)
  have hs_W17 := b.size
  clear b
  go_wp2_with fail
  refine (implWaysChart_any _ _ _ _ _ _ _ _ _ _ _ _ _ _ oR1 oR2 (by omega) (by omega) HN1.out HN2.out).mono ?_
  rintro e W18 ⟨v_, rfl, o_, b⟩
  replace oV := oV.below b
  replace oG := oG.below b
  replace oR1 := oR1.below b
  replace oR2 := oR2.below b
  replace hbel := hbel.trans (b.mono hbel.size)
  have hs_W18 := b.size
  clear b
  have oH := OI.of o_
  clear o_
  obtain ⟨A_oH, n_oH, c_oH, rfl, hn_oH⟩ := oH.form_
  have hb_oH : n_oH ≤ 1048576 := by omega
  clear hn_oH
  go_wp2_with fail
  refine (eqIntS_any _ _ _ _ _ _ _ _ _ (ri_oi_ oH) (ri_oi_ oV) (by omega)).mono ?_
  rintro e W19 ⟨rfl, b⟩
  replace oV := oV.below b
  replace oG := oG.below b
  replace oR1 := oR1.below b
  replace oR2 := oR2.below b
  replace oH := oH.below b
  replace hbel := hbel.trans (b.mono hbel.size)
  have hs_W19 := b.size
  clear b
  go_wp2_with fail
  refine (heldOI_any 1 _ _ _ _ _ _ _ _ oG (by omega) (by omega) (by omega)).mono ?_
  rintro e w' ⟨rfl, rfl⟩
  go_wp2
  go_ret
  exact ⟨rfl, hbel⟩

/-! ### THE ROW's STEP -/
set_option maxRecDepth 100000 in
theorem lifted (os : Os) (started : os.Started) (H : Type) (enc : TypeId × Value → H) :
    ReturnsInHanded {} Try.checked os 3 .any (Rows.fnExactWaysChartSpec.pre6 enc Try.prog Try.f3 Rows.fnExactWaysChartRow.domain false) (Rows.fnExactWaysChartSpec.post enc Try.prog Try.f3 false true false false) := by
  refine returnsInHanded_of_change (C := Try.checked) own started (by kernel_rfl) Try.func3
    (ChangeSpec.witness6 (enc := enc) (C := Try.checked) false ⟨#[], #[.int .i64 0, .slice none 0 0, .slice none 0 0], []⟩ 8 (by kernel_rfl) (by kernel_rfl) (by kernel_rfl) (by kernel_rfl)) ?_
  intro W base args ds gs before hval0 hW hcnd _
  have hval : ∀ (j : Nat) t v, Try.f3.params[j]? = some t → args[j]? = some v → Value.okWide Try.prog W .any base t v := hval0
  have hW' := hW
  obtain ⟨p, q, hA0, hV, rfl, hfz, hnd⟩ := hW
  have hA : DataW.TrodAll enc Try.prog W 0 (fun _ => true) true Try.f3.params.toList args.toList ds p := hA0
  rw [Try.params3] at hA hval
  obtain ⟨v0, vs0, d0, ds0, p0, q0, hargs, rfl, rfl, h0, r0⟩ := trodAll_cons hA
  obtain ⟨v1, vs1, d1, ds1, p1, q1, rfl, rfl, rfl, h1, r1⟩ := trodAll_cons r0
  obtain ⟨v2, vs2, d2, ds2, p2, q2, rfl, rfl, rfl, h2, r2⟩ := trodAll_cons r1
  obtain ⟨rfl, rfl, rfl⟩ := trodAll_nil r2
  obtain rfl : args = #[v0, v1, v2] := by cases args; simp_all
  obtain ⟨rfl, rfl⟩ := trodVars_none hV
  obtain ⟨a0, rfl, rfl, rfl, w0⟩ := open_int Try.underlying3 (hval 0 3 v0 rfl rfl) h0
  obtain ⟨a1, len1, cap1, rfl⟩ := okWide_slice Try.underlying22 (hval 1 22 v1 rfl rfl)
  have k1 := h1
  have lt1 : ∀ x ∈ p1, x.block < W.heap.size := by obtain ⟨m, hm⟩ := k1; exact DataW.trod_lt m _ _ _ hm
  obtain ⟨z1, w1⟩ : ∃ Ls, IsRows W a1 len1 Ls := by
    obtain ⟨fuel, hf⟩ := h1
    rcases Go.Deep.open_int_rows Try.underlying22 Try.underlying24 Try.underlying3 (by kernel_rfl) (by kernel_rfl) hf with ⟨hcs, _⟩ | ⟨x, l, c, A, L, C, Z, hcs, _, hl, hm, _, hr⟩
    · simp [Value.cells] at hcs
      obtain ⟨rfl, rfl, rfl⟩ := hcs
      exact ⟨[], isRows_none W⟩
    · simp [Value.cells] at hcs
      obtain ⟨rfl, rfl, rfl⟩ := hcs
      exact ⟨_, isRows_of hl hm hr⟩
  obtain ⟨a2, len2, cap2, rfl⟩ := okWide_slice Try.underlying22 (hval 2 22 v2 rfl rfl)
  have k2 := h2
  have lt2 : ∀ x ∈ p2, x.block < W.heap.size := by obtain ⟨m, hm⟩ := k2; exact DataW.trod_lt m _ _ _ hm
  obtain ⟨z2, w2⟩ : ∃ Ls, IsRows W a2 len2 Ls := by
    obtain ⟨fuel, hf⟩ := h2
    rcases Go.Deep.open_int_rows Try.underlying22 Try.underlying24 Try.underlying3 (by kernel_rfl) (by kernel_rfl) hf with ⟨hcs, _⟩ | ⟨x, l, c, A, L, C, Z, hcs, _, hl, hm, _, hr⟩
    · simp [Value.cells] at hcs
      obtain ⟨rfl, rfl, rfl⟩ := hcs
      exact ⟨[], isRows_none W⟩
    · simp [Value.cells] at hcs
      obtain ⟨rfl, rfl, rfl⟩ := hcs
      exact ⟨_, isRows_of hl hm hr⟩
  clear hA0 hval0
  refine (walk a0 a1 len1 cap1 z1 a2 len2 cap2 z2 W w0 w1 w2).mono fun e W' ⟨he, bel⟩ => ?_
  subst he
  exact ⟨_, rfl, _, _, _, [], _, [], hW', trodAll_mk1 (shut_bool Try.underlying4 _), (trodAll_cons_mk (shut_int Try.underlying3 w0) (trodAll_cons_mk (Below.trod laidOut (by kernel_rfl) (of_decide_eq_true (by kernel_rfl)) k1 bel lt1) (trodAll_cons_mk (Below.trod laidOut (by kernel_rfl) (of_decide_eq_true (by kernel_rfl)) k2 bel lt2) trodAll_mk0))), rfl, bel.frame _, fun h => by cases h⟩

theorem over : Rows.fnExactWaysChartRow.holds Try.pinned (OpenSpec.ofChange Rows.fnExactWaysChartSpec) :=
  OpenClaim.holds_of_wide 3 Try.f3 rfl rfl rfl rfl rfl rfl rfl ⟨rfl, rfl, rfl, rfl, rfl⟩ rfl rfl rfl rfl rfl (by kernel_rfl) Try.func3 (by kernel_rfl)
    (of_decide_eq_true (by kernel_rfl)) (by unfold Func.isWrapper; first | (rw [if_pos (by decide +kernel)]; kernel_rfl) | (rw [if_neg (by decide +kernel)]; exact ⟨rfl, rfl⟩))
    (fun os started H enc _ => lifted os started H enc)

theorem proved : Rows.FnExactWaysChartSaid := over
#print axioms proved
end Go.Proofs.Ytonoepggcgjfhaa.fnExactWaysChart
