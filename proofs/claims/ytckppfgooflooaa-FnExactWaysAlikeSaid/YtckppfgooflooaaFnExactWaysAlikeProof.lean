/-
  FnExactWaysAlike: for every input the law returns true and leaves its arguments as they were. No condition.
-/
import Derived.Test.YtckppfgooflooaaRows
import Derived.Test.YtckppfgooflooaaMF
import Derived.Test.YtckppfgooflooaaMG
import Derived.Test.YtckppfgooflooaaMH
import Derived.Test.YtckppfgooflooaaMI
import Derived.Test.YtckppfgooflooaaMJ
import Derived.Test.YtckppfgooflooaaMK
import Derived.WalkKit
import Derived.Deep.QuietTactic
import Derived.BigQuiet
import Derived.Outline
import Derived.ProofKit
import Derived.OpenShut
import Derived.ShutString
import Derived.ChangeOld
import Derived.Below
namespace Go.Proofs.Ytckppfgooflooaa.fnExactWaysAlike
set_option maxRecDepth 100000
open Go.ChangeShapes Go.WideShapes Go.ChangeAt Go.RowKit
open Go.ChangeMaps (open_string shut_string)
set_option linter.unusedVariables false

theorem own : ownKnob Try.prog.godebug = none := by kernel_rfl
theorem laidOut : laidOutB Try.prog = true := by kernel_rfl

def IsRow (k : IntKind) (w : World) (a : Option Addr) (len cap : Nat) (zs : List Int) : Prop :=
  (a = none ∧ len = 0 ∧ cap = 0 ∧ zs = []) ∨
  ∃ x, a = some x ∧ len ≤ cap ∧ cap ≤ maxLen ∧ zs.length = cap ∧ (∀ i, i < zs.length → w.cell? (x.add i) = some (.int k (zs.getD i 0))) ∧ ∀ n ∈ zs, (Lit.int k n).wf = true

theorem ri_of {w : World} {a : Option Addr} {len cap : Nat} {zs : List Int} (h : IsRow .i64 w a len cap zs) : RI w a len (zs.take len) := by
  rcases h with ⟨rfl, rfl, _, rfl⟩ | ⟨x, rfl, hlc, _, hz, hc, _⟩
  · exact ⟨rfl, Reads.none_⟩
  · refine ⟨by simp; omega, by simp [ivs]; omega, fun hn => ⟨x, rfl, ?_, ?_⟩⟩
    · have := block_lt_of_cell (hc 0 (by omega)); rwa [block_of_add] at this
    · intro j u hu
      have hj : j < (zs.take len).length := by
        rcases Nat.lt_or_ge j (zs.take len).length with h | h
        · exact h
        · rw [List.getElem?_eq_none (by simpa [ivs] using h)] at hu; cases hu
      have hjl : j < len := by simp at hj; omega
      rw [ivs_get, List.getElem?_take_of_lt hjl] at hu
      rw [hc j (by omega), ← hu, List.getD_eq_getElem?_getD, List.getElem?_eq_getElem (by omega)]
      rfl

set_option maxHeartbeats 4000000 in
theorem walk (a0 : Option Addr) (len0 cap0 : Nat) (z0 : List Int) (a1 : Option Addr) (len1 cap1 : Nat) (z1 : List Int) (w : World) (w0 : IsRow .i64 w a0 len0 cap0 z0) (w1 : IsRow .i64 w a1 len1 cap1 z1) :
    Calls Try.prog 7 #[.slice a0 len0 cap0, .slice a1 len1 cap1] w fun e w' => e = .returned (.bool true) ∧ Below w.heap.size w w' := by
  have h0 := ri_of w0
  generalize z0.take len0 = zs0 at h0
  clear w0
  have HL0 := Lib.hid h0.1
  have HA0 := Lib.hid h0
  clear h0
  have h1 := ri_of w1
  generalize z1.take len1 = zs1 at h1
  clear w1
  have HL1 := Lib.hid h1.1
  have HA1 := Lib.hid h1
  clear h1
  by_cases hbig0 : 1048576 < len0
  · go_enter Try.func7, Try.ntmps7
    go_wp2
    go_ret
    exact ⟨rfl, Below.refl _ _⟩
  by_cases hbig1 : 1048576 < len1
  · go_enter Try.func7, Try.ntmps7
    go_wp2
    go_ret
    exact ⟨rfl, Below.refl _ _⟩
  have hzl0 : zs0.length ≤ 1048576 := by have := HL0.out; omega
  have hzl1 : zs1.length ≤ 1048576 := by have := HL1.out; omega
  have hbel : Below w.heap.size w w := Below.refl _ _
  go_enter Try.func7, Try.ntmps7
  go_wp2_with fail
  refine (toIntS_any _ _ _ _ _ (HA0.out.below hbel) (by omega)).mono ?_
  rintro e W1 ⟨B_oS0, rfl, o_, b⟩
  replace hbel := hbel.trans (b.mono hbel.size)
  have hs_W1 := b.size
  clear b
  have oS0 := OI.ofn HL0.out o_
  clear o_
  go_wp2_with fail
  refine (toIntS_any _ _ _ _ _ (HA1.out.below hbel) (by omega)).mono ?_
  rintro e W2 ⟨B_oS1, rfl, o_, b⟩
  replace oS0 := oS0.below b
  replace hbel := hbel.trans (b.mono hbel.size)
  have hs_W2 := b.size
  clear b
  have oS1 := OI.ofn HL1.out o_
  clear o_
  go_wp2_with fail
  refine (specAlike_any _ _ _ _ _ _ _ _ _ (ri_oi_ oS0) (ri_oi_ oS1) (by omega) (by omega)).mono ?_
  rintro e W3 ⟨rfl, b⟩
  replace oS0 := oS0.below b
  replace oS1 := oS1.below b
  replace hbel := hbel.trans (b.mono hbel.size)
  have hs_W3 := b.size
  clear b
  clear oS0
  clear oS1
  go_wp2_with fail
  refine (toIntS_any _ _ _ _ _ (HA0.out.below hbel) (by omega)).mono ?_
  rintro e W4 ⟨B_oX0, rfl, o_, b⟩
  replace hbel := hbel.trans (b.mono hbel.size)
  have hs_W4 := b.size
  clear b
  have oX0 := OI.ofn HL0.out o_
  clear o_
  go_wp2_with fail
  refine (toIntS_any _ _ _ _ _ (HA1.out.below hbel) (by omega)).mono ?_
  rintro e W5 ⟨B_oX1, rfl, o_, b⟩
  replace oX0 := oX0.below b
  replace hbel := hbel.trans (b.mono hbel.size)
  have hs_W5 := b.size
  clear b
  have oX1 := OI.ofn HL1.out o_
  clear o_
  go_wp2_with fail
  refine (implAlike_any _ _ _ _ _ _ _ _ _ (ri_oi_ oX0) (ri_oi_ oX1) (by omega) (by omega)).mono ?_
  rintro e W6 ⟨rfl, b⟩
  replace oX0 := oX0.below b
  replace oX1 := oX1.below b
  replace hbel := hbel.trans (b.mono hbel.size)
  have hs_W6 := b.size
  clear b
  go_wp2_with fail
  refine (toIntS_any _ _ _ _ _ (HA0.out.below hbel) (by omega)).mono ?_
  rintro e W7 ⟨B_oT0, rfl, o_, b⟩
  replace oX0 := oX0.below b
  replace oX1 := oX1.below b
  replace hbel := hbel.trans (b.mono hbel.size)
  have hs_W7 := b.size
  clear b
  have oT0 := OI.ofn HL0.out o_
  clear o_
  go_wp2_with fail
  refine (eqIntS_any _ _ _ _ _ _ _ _ _ (ri_oi_ oX0) (ri_oi_ oT0) (by omega)).mono ?_
  rintro e W8 ⟨rfl, b⟩
  replace oX0 := oX0.below b
  replace oX1 := oX1.below b
  replace oT0 := oT0.below b
  replace hbel := hbel.trans (b.mono hbel.size)
  have hs_W8 := b.size
  clear b
  clear oT0
  go_wp2_with fail
  refine (toIntS_any _ _ _ _ _ (HA1.out.below hbel) (by omega)).mono ?_
  rintro e W9 ⟨B_oT1, rfl, o_, b⟩
  replace oX0 := oX0.below b
  replace oX1 := oX1.below b
  replace hbel := hbel.trans (b.mono hbel.size)
  have hs_W9 := b.size
  clear b
  have oT1 := OI.ofn HL1.out o_
  clear o_
  go_wp2_with fail
  refine (eqIntS_any _ _ _ _ _ _ _ _ _ (ri_oi_ oX1) (ri_oi_ oT1) (by omega)).mono ?_
  rintro e W10 ⟨rfl, b⟩
  replace oX0 := oX0.below b
  replace oX1 := oX1.below b
  replace oT1 := oT1.below b
  replace hbel := hbel.trans (b.mono hbel.size)
  have hs_W10 := b.size
  clear b
  clear oT1
  go_wp2
  go_ret
  exact ⟨rfl, hbel⟩

/-! ### THE ROW's STEP -/
set_option maxRecDepth 100000 in
theorem lifted (os : Os) (started : os.Started) (H : Type) (enc : TypeId × Value → H) :
    ReturnsInHanded {} Try.checked os 7 .any (Rows.fnExactWaysAlikeSpec.pre6 enc Try.prog Try.f7 Rows.fnExactWaysAlikeRow.domain false) (Rows.fnExactWaysAlikeSpec.post enc Try.prog Try.f7 false true false false) := by
  refine returnsInHanded_of_change (C := Try.checked) own started (by kernel_rfl) Try.func7
    (ChangeSpec.witness6 (enc := enc) (C := Try.checked) false ⟨#[], #[.slice none 0 0, .slice none 0 0], []⟩ 8 (by kernel_rfl) (by kernel_rfl) (by kernel_rfl) (by kernel_rfl)) ?_
  intro W base args ds gs before hval0 hW hcnd _
  have hval : ∀ (j : Nat) t v, Try.f7.params[j]? = some t → args[j]? = some v → Value.okWide Try.prog W .any base t v := hval0
  have hW' := hW
  obtain ⟨p, q, hA0, hV, rfl, hfz, hnd⟩ := hW
  have hA : DataW.TrodAll enc Try.prog W 0 (fun _ => true) true Try.f7.params.toList args.toList ds p := hA0
  rw [Try.params7] at hA hval
  obtain ⟨v0, vs0, d0, ds0, p0, q0, hargs, rfl, rfl, h0, r0⟩ := trodAll_cons hA
  obtain ⟨v1, vs1, d1, ds1, p1, q1, rfl, rfl, rfl, h1, r1⟩ := trodAll_cons r0
  obtain ⟨rfl, rfl, rfl⟩ := trodAll_nil r1
  obtain rfl : args = #[v0, v1] := by cases args; simp_all
  obtain ⟨rfl, rfl⟩ := trodVars_none hV
  obtain ⟨a0, len0, cap0, rfl⟩ := okWide_slice Try.underlying27 (hval 0 27 v0 rfl rfl)
  have k0 := h0
  have lt0 : ∀ x ∈ p0, x.block < W.heap.size := by obtain ⟨m, hm⟩ := k0; exact DataW.trod_lt m _ _ _ hm
  obtain ⟨z0, w0⟩ : ∃ zs, IsRow .i64 W a0 len0 cap0 zs := by
    obtain ⟨fuel, hf⟩ := h0
    rcases open_ints Try.underlying27 Try.underlying3 (by kernel_rfl) hf with ⟨hcs, _⟩ | ⟨x, l, c, zs, hcs, _, hl, hm, hz, _, hcell, hwz⟩
    · simp [Value.cells] at hcs
      obtain ⟨rfl, rfl, rfl⟩ := hcs
      exact ⟨[], .inl ⟨rfl, rfl, rfl, rfl⟩⟩
    · simp [Value.cells] at hcs
      obtain ⟨rfl, rfl, rfl⟩ := hcs
      exact ⟨zs, .inr ⟨_, rfl, hl, hm, by simpa using hz, hcell, hwz⟩⟩
  obtain ⟨a1, len1, cap1, rfl⟩ := okWide_slice Try.underlying27 (hval 1 27 v1 rfl rfl)
  have k1 := h1
  have lt1 : ∀ x ∈ p1, x.block < W.heap.size := by obtain ⟨m, hm⟩ := k1; exact DataW.trod_lt m _ _ _ hm
  obtain ⟨z1, w1⟩ : ∃ zs, IsRow .i64 W a1 len1 cap1 zs := by
    obtain ⟨fuel, hf⟩ := h1
    rcases open_ints Try.underlying27 Try.underlying3 (by kernel_rfl) hf with ⟨hcs, _⟩ | ⟨x, l, c, zs, hcs, _, hl, hm, hz, _, hcell, hwz⟩
    · simp [Value.cells] at hcs
      obtain ⟨rfl, rfl, rfl⟩ := hcs
      exact ⟨[], .inl ⟨rfl, rfl, rfl, rfl⟩⟩
    · simp [Value.cells] at hcs
      obtain ⟨rfl, rfl, rfl⟩ := hcs
      exact ⟨zs, .inr ⟨_, rfl, hl, hm, by simpa using hz, hcell, hwz⟩⟩
  clear hA0 hval0
  refine (walk a0 len0 cap0 z0 a1 len1 cap1 z1 W w0 w1).mono fun e W' ⟨he, bel⟩ => ?_
  subst he
  exact ⟨_, rfl, _, _, _, [], _, [], hW', trodAll_mk1 (shut_bool Try.underlying4 _), (trodAll_cons_mk (Below.trod laidOut (by kernel_rfl) (of_decide_eq_true (by kernel_rfl)) k0 bel lt0) (trodAll_cons_mk (Below.trod laidOut (by kernel_rfl) (of_decide_eq_true (by kernel_rfl)) k1 bel lt1) trodAll_mk0)), rfl, bel.frame _, fun h => by cases h⟩

theorem over : Rows.fnExactWaysAlikeRow.holds Try.pinned (OpenSpec.ofChange Rows.fnExactWaysAlikeSpec) :=
  OpenClaim.holds_of_wide 7 Try.f7 rfl rfl rfl rfl rfl rfl rfl ⟨rfl, rfl, rfl, rfl, rfl⟩ rfl rfl rfl rfl rfl (by kernel_rfl) Try.func7 (by kernel_rfl)
    (of_decide_eq_true (by kernel_rfl)) (by unfold Func.isWrapper; first | (rw [if_pos (by decide +kernel)]; kernel_rfl) | (rw [if_neg (by decide +kernel)]; exact ⟨rfl, rfl⟩))
    (fun os started H enc _ => lifted os started H enc)

theorem proved : Rows.FnExactWaysAlikeSaid := over
#print axioms proved
end Go.Proofs.Ytckppfgooflooaa.fnExactWaysAlike
