/-
  FnExactCongruenceGroup: for every input the law returns true and leaves its arguments as they were. No condition.
-/
import Derived.Test.YtmknjifmmmnjjaaGreatDoorRows
import Derived.Test.YtmknjifmmmnjjaaGreatDoorCards
import Derived.Test.YtmknjifmmmnjjaaGreatDoorTie
import Derived.Test.YtmknjifmmmnjjaaGreatDoorJf
import Derived.Test.YtmknjifmmmnjjaaGreatDoorPK
import Derived.Test.YtmknjifmmmnjjaaGreatDoorME
import Derived.Test.YtmknjifmmmnjjaaGreatDoorQI
import Derived.WalkKit
import Derived.Deep.QuietTactic
import Derived.BigQuiet
import Derived.Outline
import Derived.ProofKit
import Derived.OpenShut
import Derived.ShutString
import Derived.ChangeOld
import Derived.Below
import Derived.ChangeSame
import Derived.ChangeVars
import Derived.JoinedOf
import Derived.RowKit
import Derived.RowKitTokens
import Derived.LaidLaws
import Derived.LaidHandle
import Derived.Stop.Joined
import Derived.SevenTiedAt
namespace Go.Proofs.YtmknjifmmmnjjaaGreatDoor.fnExactCongruenceGroup
set_option maxRecDepth 100000
open Go.ChangeShapes Go.WideShapes Go.ChangeAt Go.RowKit
open Go.ChangeMaps (open_string shut_string)
set_option linter.unusedVariables false

theorem own : ownKnob Tryz.prog.godebug = none := by kernel_rfl
theorem laidOut : laidOutB Tryz.prog = true := by kernel_rfl

def IsRow (k : IntKind) (w : World) (a : Option Addr) (len cap : Nat) (zs : List Int) : Prop :=
  (a = none ∧ len = 0 ∧ cap = 0 ∧ zs = []) ∨
  ∃ x, a = some x ∧ len ≤ cap ∧ cap ≤ maxLen ∧ zs.length = cap ∧ (∀ i, i < zs.length → w.cell? (x.add i) = some (.int k (zs.getD i 0))) ∧ ∀ n ∈ zs, (Lit.int k n).wf = true



set_option maxHeartbeats 4000000 in
theorem walk (a0 : Option Addr) (len0 cap0 : Nat) (z0 : List (List Int)) (w : World) (het : EtAt w) (w0 : IsRows w a0 len0 z0) :
    Calls Tryz.prog 6 #[.slice a0 len0 cap0] w fun e w' => e = .returned (.bool true) ∧ Below w.heap.size w w' := by
  have HET := Lib.hid het
  clear het
  obtain ⟨h0, hm0, hx0⟩ := w0
  have HL0 := Lib.hid h0.1
  have HX0 := Lib.hid hx0
  have HA0 := Lib.hid h0
  clear h0 hx0
  generalize z0 = zs0 at HL0 HX0 HA0
  have hml0 : len0 ≤ 9223372036854775807 := Nat.le_trans hm0 (by unfold maxLen; omega)
  have HXL0 : Hid (∀ L ∈ zs0, L.length ≤ 9223372036854775807) := fun L hL => Nat.le_trans (HX0.out L hL) (by unfold maxLen; omega)
  have hmin0 := szT_min (1048576) zs0 (by omega)
  by_cases hs0 : szT (1048576) zs0 < 0
  · go_enter Tryz.func6, Tryz.ntmps6
    go_wp2_with fail
    refine (szSS_any _ _ _ _ _ _ HA0.out (by omega) (by omega) hml0 HXL0.out).mono ?_
    rintro e w' ⟨rfl, rfl⟩
    go_wp2
    go_ret
    exact ⟨rfl, Below.refl _ _⟩
  have hf0 := szT_fits (by omega) (show 0 ≤ szT (1048576) zs0 by omega)
  rw [HL0.out] at hf0
  have HS0 := Lib.hid hf0.1
  have hq0 := hf0.2
  have HN0 : Hid (∀ L ∈ zs0, L.length ≤ 1048576) := fun L hL => by have := totL_of_mem hL; omega
  clear hf0 hmin0
  have hR := grpL_len zs0
  have hzl0 : totL zs0 ≤ 1048576 := by omega
  have hbel : Below w.heap.size w w := Below.refl _ _
  go_enter Tryz.func6, Tryz.ntmps6
  go_wp2_with fail
  refine (szSS_any _ _ _ _ _ _ HA0.out (by omega) (by omega) hml0 HXL0.out).mono ?_
  rintro e w' ⟨rfl, rfl⟩
  rw [HS0.out]
  go_wp2_with fail
  refine (toIntSS_any _ _ _ _ _ (HA0.out.below hbel) (by omega) HN0.out).mono ?_
  rintro e W1 ⟨B_oS0, rfl, oS0, b⟩
  replace hbel := hbel.trans (b.mono hbel.size)
  have hs_W1 := b.size
  clear b
  go_wp2_with fail
  refine (specCgGroup_any _ _ _ _ _ (rss_oss_ oS0) (by omega) HN0.out).mono ?_
  rintro e W2 ⟨v_, rfl, o_, b⟩
  replace oS0 := oS0.below b
  replace hbel := hbel.trans (b.mono hbel.size)
  have hs_W2 := b.size
  clear b
  have oV := OI.of o_
  clear o_
  obtain ⟨A_oV, n_oV, c_oV, rfl, hn_oV⟩ := oV.form_
  have hb_oV : n_oV ≤ 1048576 := by omega
  clear hn_oV
  clear oS0
  go_wp2_with fail
  refine (toIntSS_any _ _ _ _ _ (HA0.out.below hbel) (by omega) HN0.out).mono ?_
  rintro e W3 ⟨B_oX0, rfl, oX0, b⟩
  replace oV := oV.below b
  replace hbel := hbel.trans (b.mono hbel.size)
  have hs_W3 := b.size
  clear b
  go_wp2_with fail
  refine (implCgGroup_any _ _ _ _ _ (rss_oss_ oX0) (HET.out.below hbel)).mono ?_
  rintro e W4 ⟨v_, rfl, o_, b⟩
  replace oV := oV.below b
  replace oX0 := oX0.below b
  replace hbel := hbel.trans (b.mono hbel.size)
  have hs_W4 := b.size
  clear b
  have oG := OI.of o_
  clear o_
  obtain ⟨A_oG, n_oG, c_oG, rfl, hn_oG⟩ := oG.form_
  have hb_oG : n_oG ≤ 1048576 := by omega
  clear hn_oG
  go_wp2_with fail
  refine (eqIntS_any _ _ _ _ _ _ _ _ _ (ri_oi_ oG) (ri_oi_ oV) (by omega)).mono ?_
  rintro e W5 ⟨rfl, b⟩
  replace oV := oV.below b
  replace oX0 := oX0.below b
  replace oG := oG.below b
  replace hbel := hbel.trans (b.mono hbel.size)
  have hs_W5 := b.size
  clear b
  go_wp2_with fail
  refine (toIntSS_any _ _ _ _ _ (HA0.out.below hbel) (by omega) HN0.out).mono ?_
  rintro e W6 ⟨B_oT0, rfl, oT0, b⟩
  replace oV := oV.below b
  replace oX0 := oX0.below b
  replace oG := oG.below b
  replace hbel := hbel.trans (b.mono hbel.size)
  have hs_W6 := b.size
  clear b
  go_wp2_with fail
  refine (eqIntSS_any _ _ _ _ _ _ _ _ _ (rss_oss_ oX0) (rss_oss_ oT0) (by omega) HN0.out).mono ?_
  rintro e W7 ⟨rfl, b⟩
  replace oV := oV.below b
  replace oX0 := oX0.below b
  replace oG := oG.below b
  replace oT0 := oT0.below b
  replace hbel := hbel.trans (b.mono hbel.size)
  have hs_W7 := b.size
  clear b
  clear oT0
  go_wp2_with fail
  refine (markSS_any W2.heap.size W3.heap.size (1) _ _ _ _ _ _ oX0 (by omega) (by omega) (by omega) HN0.out).mono ?_
  rintro e W8 ⟨rfl, o_, bt⟩
  replace oV := oV.btw bt (by omega)
  replace oG := oG.btw bt (by omega)
  replace hbel := hbel.trans (bt.below (by omega) hbel.size)
  replace oX0 := o_
  have hs_W8 := bt.size
  clear bt
  clear oX0
  go_wp2_with fail
  refine (eqIntS_any _ _ _ _ _ _ _ _ _ (ri_oi_ oG) (ri_oi_ oV) (by omega)).mono ?_
  rintro e W9 ⟨rfl, b⟩
  replace oV := oV.below b
  replace oG := oG.below b
  replace hbel := hbel.trans (b.mono hbel.size)
  have hs_W9 := b.size
  clear b
  go_wp2_with fail
  refine (mark_oi W3.heap.size W4.heap.size (1) _ _ _ _ _ _ oG (by omega) (by omega) (by omega)).mono ?_
  rintro e W10 ⟨rfl, o_, bt⟩
  replace oV := oV.btw bt (by omega)
  replace hbel := hbel.trans (bt.below (by omega) hbel.size)
  replace oG := o_
  have hs_W10 := bt.size
  clear bt
  go_wp2_with fail
  refine (heldOI_any 1 _ _ _ _ _ _ _ _ oG (by omega) (by omega) (by omega)).mono ?_
  rintro e w' ⟨rfl, rfl⟩
  go_wp2_with fail
  refine (toIntSS_any _ _ _ _ _ (HA0.out.below hbel) (by omega) HN0.out).mono ?_
  rintro e W11 ⟨B_oR0, rfl, oR0, b⟩
  replace oV := oV.below b
  replace oG := oG.below b
  replace hbel := hbel.trans (b.mono hbel.size)
  have hs_W11 := b.size
  clear b
  go_wp2_with fail
  refine (implCgGroup_any _ _ _ _ _ (rss_oss_ oR0) (HET.out.below hbel)).mono ?_
  rintro e W12 ⟨v_, rfl, o_, b⟩
  replace oV := oV.below b
  replace oG := oG.below b
  replace oR0 := oR0.below b
  replace hbel := hbel.trans (b.mono hbel.size)
  have hs_W12 := b.size
  clear b
  have oH := OI.of o_
  clear o_
  obtain ⟨A_oH, n_oH, c_oH, rfl, hn_oH⟩ := oH.form_
  have hb_oH : n_oH ≤ 1048576 := by omega
  clear hn_oH
  go_wp2_with fail
  refine (eqIntS_any _ _ _ _ _ _ _ _ _ (ri_oi_ oH) (ri_oi_ oV) (by omega)).mono ?_
  rintro e W13 ⟨rfl, b⟩
  replace oV := oV.below b
  replace oG := oG.below b
  replace oR0 := oR0.below b
  replace oH := oH.below b
  replace hbel := hbel.trans (b.mono hbel.size)
  have hs_W13 := b.size
  clear b
  go_wp2_with fail
  refine (heldOI_any 1 _ _ _ _ _ _ _ _ oG (by omega) (by omega) (by omega)).mono ?_
  rintro e w' ⟨rfl, rfl⟩
  go_wp2
  go_ret
  exact ⟨rfl, hbel⟩

/-! ### THE ROW's STEP -/
theorem et : Tryz.prog.globalNamed "errors.errorType" = some 0 := by kernel_rfl
theorem rt : (Tryz.prog.cutTypes.find? (·.1 == "internal/reflectlite.rtype")).map (·.2) = some 220 := by kernel_rfl
theorem oneRow : ((List.range 280).filter fun t => Tryz.prog.rowNamed t [101, 114, 114, 111, 114]) = [136] := by kernel_rfl
theorem tsize : Tryz.prog.types.size = 280 := by kernel_rfl
abbrev laidL {H : Type} : List (String × DataW H) := [("errors.errorType", Rows.laid_errors_errorType)]
/-- what the condition gives a walk: the variable's one cell -/
theorem handle_of_laid {W : World} (h : laidMetH Tryz.prog laidL W) : EtAt W := by
  have h' : laidMet Tryz.prog [] W ∧ handlesMet Tryz.prog laidL W := h
  obtain ⟨name, u, ty, e1, e2, e3, e4, e5⟩ := h'.2 _ (List.mem_singleton.2 rfl)
  have en : name = [101, 114, 114, 111, 114] := (Option.some.inj e1).symm
  subst en
  obtain rfl := Option.some.inj (rt.symm.trans e2)
  have hm : ty ∈ (List.range 280).filter fun t => Tryz.prog.rowNamed t [101, 114, 114, 111, 114] := List.mem_filter.2 ⟨List.mem_range.2 (by rw [← tsize]; exact e3), e4⟩
  rw [oneRow] at hm
  obtain rfl := List.mem_singleton.1 hm
  have hh : typeHandle Tryz.prog 136 = .pointer (some ⟨1, 136, none⟩) := by kernel_rfl
  rw [hh] at e5
  unfold EtAt
  simpa using World.var?_cell et e5 0
/-- a world that meets the condition -/
noncomputable def laidWorld (os : Os) : World :=
  let w0 := World.holding Tryz.prog os ⟨#[], #[], []⟩
  { w0 with heap := w0.heap.modify 0 fun
      | .cells _ t frozen => .cells #[.iface 220 (.agg #[.pointer (some ⟨1, 136, none⟩)])] t frozen
      | o => o }
theorem laidWorld_met (os : Os) (args : Array Value) : laidMetH Tryz.prog laidL ((laidWorld os).forCall (fun _ _ => 0) ⟨#[], args, []⟩).memory :=
  laidMetH_of_parts (laidMet_nil _ _) (by kernel_rfl)

set_option maxRecDepth 100000 in
theorem lifted (os : Os) (started : os.Started) (H : Type) (enc : TypeId × Value → H) :
    ReturnsInHanded {} Tryz.checked os 6 .any (fun w args => (Rows.fnExactCongruenceGroupSpec.pre enc Tryz.prog Tryz.f6 [] false w args ∧ laidMetH Tryz.prog laidL w) ∧ sizedMet enc Tryz.prog Tryz.f6 (OpenSpec.ofChange Rows.fnExactCongruenceGroupSpec) false w args) (Rows.fnExactCongruenceGroupSpec.post enc Tryz.prog Tryz.f6 false true false false) := by
  refine returnsInHanded_of_change_and (C := Tryz.checked) (X := fun w _ => laidMetH Tryz.prog laidL w) (fun _ _ _ hh h => h.of_heap hh) own started (by kernel_rfl) Tryz.func6
    (ChangeSpec.witness_at (enc := enc) (C := Tryz.checked) (os := os) (X := fun w _ => laidMetH Tryz.prog laidL w) false (laidWorld os) #[.slice none 0 0] 8 rfl (by kernel_rfl) (by kernel_rfl) (by kernel_rfl) (by kernel_rfl) (by kernel_rfl) (laidWorld_met os _)) ?_
  intro W base args ds gs before hval0 hW _ _ hL _
  have hval : ∀ (j : Nat) t v, Tryz.f6.params[j]? = some t → args[j]? = some v → Value.okWide Tryz.prog W .any base t v := hval0
  have hW' := hW
  obtain ⟨p, q, hA0, hV, rfl, hfz, hnd⟩ := hW
  have hA : DataW.TrodAll enc Tryz.prog W 0 (fun _ => true) true Tryz.f6.params.toList args.toList ds p := hA0
  rw [Tryz.params6] at hA hval
  obtain ⟨v0, vs0, d0, ds0, p0, qq0, hargs, rfl, rfl, h0, r0⟩ := trodAll_cons hA
  obtain ⟨rfl, rfl, rfl⟩ := trodAll_nil r0
  obtain rfl : args = #[v0] := by cases args; simp_all
  obtain ⟨rfl, rfl⟩ := trodVars_none hV
  obtain ⟨a0, len0, cap0, rfl⟩ := okWide_slice Tryz.underlying23 (hval 0 23 v0 rfl rfl)
  have k0 := h0
  have lt0 : ∀ x ∈ p0, x.block < W.heap.size := by obtain ⟨m, hm⟩ := k0; exact DataW.trod_lt m _ _ _ hm
  obtain ⟨z0, w0⟩ : ∃ Ls, IsRows W a0 len0 Ls := by
    obtain ⟨fuel, hf⟩ := h0
    rcases Go.Deep.open_int_rows Tryz.underlying23 Tryz.underlying24 Tryz.underlying3 (by kernel_rfl) (by kernel_rfl) hf with ⟨hcs, _⟩ | ⟨x, l, c, A, L, C, Z, hcs, _, hl, hm, _, hr⟩
    · simp [Value.cells] at hcs
      obtain ⟨rfl, rfl, rfl⟩ := hcs
      exact ⟨[], isRows_none W⟩
    · simp [Value.cells] at hcs
      obtain ⟨rfl, rfl, rfl⟩ := hcs
      exact ⟨_, isRows_of hl hm hr⟩
  clear hA0 hval0
  refine (walk a0 len0 cap0 z0 W (handle_of_laid hL) w0).mono fun e W' ⟨he, bel⟩ => ?_
  subst he
  exact ⟨_, rfl, _, _, _, [], _, [], hW', trodAll_mk1 (shut_bool Tryz.underlying4 _), (trodAll_cons_mk (Below.trod laidOut (by kernel_rfl) (of_decide_eq_true (by kernel_rfl)) k0 bel lt0) trodAll_mk0), rfl, bel.frame _, fun h => by cases h⟩

theorem over : Rows.fnExactCongruenceGroupRow.holds Tryz.pinned (OpenSpec.ofChange Rows.fnExactCongruenceGroupSpec) :=
  OpenClaim.holds_of_wide_leaving 6 Tryz.f6 rfl rfl rfl rfl rfl rfl rfl ⟨rfl, rfl, rfl, rfl, rfl⟩ rfl rfl rfl rfl rfl (by kernel_rfl) Tryz.func6 (by show joinedFacts Tryz.prog 6 Tryz.f6 Rows.fnExactCongruenceGroupSpec Rows.fnExactCongruenceGroupRow = true; unfold joinedFacts; rw [jf_may, jf_lift, jf_make]; kernel_rfl)
    (of_decide_eq_true (by kernel_rfl)) (by unfold Func.isWrapper; first | (rw [if_pos (by decide +kernel)]; kernel_rfl) | (rw [if_neg (by decide +kernel)]; exact ⟨rfl, rfl⟩))
    (fun os started H enc _ => leaving_of_handed (lifted os started H enc))

theorem proved : Rows.FnExactCongruenceGroupCardSaid :=
  tied_goes .later [] [.handle] true _ true
    over (fun _ h => by cases h) (by kernel_rfl) (fun _ h => by cases h) fnExactCongruenceGroup_row_tie rfl ⟨rfl, rfl⟩ jf_main rfl
    (fun f fn hf hfn => by
      obtain rfl : f = 6 := Option.some.inj ((show Tryz.prog.funcNamed Rows.fnExactCongruenceGroupRow.func = some 6 by kernel_rfl).symm.trans hf) |>.symm
      obtain rfl : fn = Tryz.f6 := (Option.some.inj (Tryz.func6.symm.trans hfn)).symm
      exact ⟨by kernel_rfl, fun j t ht => by
        rw [Tryz.params6] at ht
        rcases j with _ | j
        · have h0 : t = 23 := by simpa using ht.symm
          subst h0
          exact (show Tryz.prog.wantsStandIn 23 = false by kernel_rfl)
        simp at ht⟩)
    (by kernel_rfl)
#print axioms proved
end Go.Proofs.YtmknjifmmmnjjaaGreatDoor.fnExactCongruenceGroup
