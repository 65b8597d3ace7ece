/-
  FnShape: for every input the law returns true and leaves its arguments as they were. No condition.
-/
import Derived.Test.YtckppfgooflooabRows
import Derived.Test.YtckppfgooflooabMF
import Derived.Test.YtckppfgooflooabMK
import Derived.Test.YtckppfgooflooabML
import Derived.WalkKit
import Derived.Deep.QuietTactic
import Derived.BigQuiet
import Derived.Outline
import Derived.ProofKit
import Derived.OpenShut
import Derived.ShutString
import Derived.ChangeOld
import Derived.Below
namespace Go.Proofs.Ytckppfgooflooab.fnShape
set_option maxRecDepth 100000
open Go.ChangeShapes Go.WideShapes Go.ChangeAt Go.RowKit
open Go.ChangeMaps (open_string shut_string)
set_option linter.unusedVariables false

theorem own : ownKnob Try.prog.godebug = none := by kernel_rfl
theorem laidOut : laidOutB Try.prog = true := by kernel_rfl

/-- WHAT THE WALK IS TOLD OF A SLICE OF INTEGERS THAT CAME IN: it is nil; or it leads to a row of 'cap' cells, the numbers 'zs' (the first 'len' are its elements, the rest its spare room), each fitting its kind. -/
def IsRow (k : IntKind) (w : World) (a : Option Addr) (len cap : Nat) (zs : List Int) : Prop :=
  (a = none ∧ len = 0 ∧ cap = 0 ∧ zs = []) ∨
  ∃ x, a = some x ∧ len ≤ cap ∧ cap ≤ maxLen ∧ zs.length = cap ∧ (∀ i, i < zs.length → w.cell? (x.add i) = some (.int k (zs.getD i 0))) ∧ ∀ n ∈ zs, (Lit.int k n).wf = true

theorem src_of {w : World} {a : Option Addr} {len cap : Nat} {zs : List Int} (h : IsRow .u8 w a len cap zs) : ∃ bs : Nat → Nat, Src w w.heap.size a len bs ∧ len ≤ cap := by
  rcases h with ⟨rfl, rfl, rfl, rfl⟩ | ⟨x, rfl, hlc, _, hz, hc, hw⟩
  · exact ⟨fun _ => 0, ⟨fun _ => (by decide : (0 : Nat) < 256), fun j hj => absurd hj (by omega)⟩, Nat.le_refl _⟩
  · have hr : ∀ j, 0 ≤ zs.getD j 0 ∧ zs.getD j 0 < 256 := fun j => by
      rcases Nat.lt_or_ge j zs.length with h | h
      · have := hw zs[j] (List.getElem_mem h)
        rw [List.getD_eq_getElem?_getD, List.getElem?_eq_getElem h]
        simp [Lit.wf] at this
        have h0 : IntKind.u8.min = 0 := by decide
        have h1 : IntKind.u8.max = 255 := by decide
        rw [h0, h1] at this
        simp
        omega
      · rw [List.getD_eq_getElem?_getD, List.getElem?_eq_none h]; simp
    refine ⟨fun j => (zs.getD j 0).toNat, ⟨fun j => by have := hr j; show (zs.getD j 0).toNat < 256; omega, fun j hj => ⟨x, rfl, ?_, ?_⟩⟩, hlc⟩
    · have := block_lt_of_cell (hc 0 (by omega)); rwa [block_of_add] at this
    · rw [hc j (by omega), Int.toNat_of_nonneg (hr j).1]

/-! ### STEP 1: THE WALK: the Go text returns true, AND WRITES NOTHING THAT WAS THERE: 'Below w.heap.size w w'' (Derived/Below.lean: '.refl', '.alloc', '.drew', '.setCell' at a new block, '.trans'). Open each 'IsRow' by 'rcases' AHEAD of 'go_enter'; part every test ahead of the walk. -/
set_option maxHeartbeats 4000000 in
theorem walk (a0 : Option Addr) (len0 cap0 : Nat) (z0 : List Int) (w : World) (w0 : IsRow .u8 w a0 len0 cap0 z0) :
    Calls Try.prog 5 #[.slice a0 len0 cap0] w fun e w' => e = .returned (.bool true) ∧ Below w.heap.size w w' := by
  obtain ⟨bs, hS, hlc⟩ := src_of w0
  clear w0
  by_cases hbig : 1048576 < len0
  · go_enter Try.func5, Try.ntmps5
    go_wp2
    go_ret
    exact ⟨rfl, Below.refl _ _⟩
  go_enter Try.func5, Try.ntmps5
  go_wp2_with fail
  refine (drawShape_any _ _ _ _ _ hS hlc (by omega)).mono ?_
  rintro e W1 ⟨v, rfl, f, hf, oF, hbel⟩
  obtain ⟨A_F, c_F, rfl⟩ := own_slice oF
  clear hS
  have hs1 := hbel.size
  have hR0 := shCL_le f
  have hR1 := shYL_le f
  go_wp2_with fail
  refine (implShape_any _ _ _ _ _ (RI.of_own oF) (by omega)).mono ?_
  rintro e W2 ⟨v0_, v1_, m2, rfl, m2a, m2b, oG0, oG1, b⟩
  replace oF := own_below oF b
  replace hbel := hbel.trans (b.mono hbel.size)
  clear b
  obtain ⟨A_G0, n_G0, c_G0, rfl, hn_G0⟩ := oG0.form_
  obtain ⟨A_G1, n_G1, c_G1, rfl, hn_G1⟩ := oG1.form_
  have hb_G0 : n_G0 ≤ 12 := by omega
  have hb_G1 : n_G1 ≤ 12 := by omega
  have HG0 := Lib.hid hn_G0
  have HG1 := Lib.hid hn_G1
  clear hn_G0 hn_G1
  go_wp2_with fail
  refine (specShape_any _ _ _ _ _ (RI.of_own oF) (by omega)).mono ?_
  rintro e W3 ⟨v0_, v1_, m3, rfl, m3a, m3b, oV0, oV1, b⟩
  replace oF := own_below oF b
  replace oG0 := oG0.below b
  replace oG1 := oG1.below b
  replace hbel := hbel.trans (b.mono hbel.size)
  clear b
  obtain ⟨A_V0, n_V0, c_V0, rfl, hn_V0⟩ := oV0.form_
  obtain ⟨A_V1, n_V1, c_V1, rfl, hn_V1⟩ := oV1.form_
  clear hn_V0 hn_V1
  cases hP : isC f
  · go_wp2_with fail
    refine (sameInts_any _ _ _ _ _ _ _ _ _ (ri_oi_ oG0) (ri_oi_ oV0) (by omega)).mono ?_
    rintro e W4 ⟨rfl, b⟩
    replace oG0 := oG0.below b
    replace oG1 := oG1.below b
    replace oV0 := oV0.below b
    replace oV1 := oV1.below b
    replace hbel := hbel.trans (b.mono hbel.size)
    clear b
    go_wp2_with fail
    refine (sameInts_any _ _ _ _ _ _ _ _ _ (ri_oi_ oG1) (ri_oi_ oV1) (by omega)).mono ?_
    rintro e W5 ⟨rfl, b⟩
    replace oG0 := oG0.below b
    replace oG1 := oG1.below b
    replace oV0 := oV0.below b
    replace oV1 := oV1.below b
    replace hbel := hbel.trans (b.mono hbel.size)
    clear b
    go_wp2_with fail
    refine (sameInts_any _ _ _ _ _ _ _ _ _ (ri_oi_ oG0) (ri_oi_ oV0) (by omega)).mono ?_
    rintro e W6 ⟨rfl, b⟩
    replace oG1 := oG1.below b
    replace oV1 := oV1.below b
    replace hbel := hbel.trans (b.mono hbel.size)
    clear b
    go_wp2_with fail
    refine (sameInts_any _ _ _ _ _ _ _ _ _ (ri_oi_ oG1) (ri_oi_ oV1) (by omega)).mono ?_
    rintro e W7 ⟨rfl, b⟩
    replace hbel := hbel.trans (b.mono hbel.size)
    clear b
    go_wp2
    go_ret
    exact ⟨rfl, hbel⟩
  · go_wp2_with fail
    refine (sameInts_any _ _ _ _ _ _ _ _ _ (ri_oi_ oG0) (ri_oi_ oV0) (by omega)).mono ?_
    rintro e W4 ⟨rfl, b⟩
    replace oF := own_below oF b
    replace oG0 := oG0.below b
    replace oG1 := oG1.below b
    replace oV1 := oV1.below b
    replace hbel := hbel.trans (b.mono hbel.size)
    clear b oV0
    go_wp2_with fail
    refine (sameInts_any _ _ _ _ _ _ _ _ _ (ri_oi_ oG1) (ri_oi_ oV1) (by omega)).mono ?_
    rintro e W5 ⟨rfl, b⟩
    replace oF := own_below oF b
    replace oG0 := oG0.below b
    replace oG1 := oG1.below b
    replace hbel := hbel.trans (b.mono hbel.size)
    clear b oV1
    have HF := Lib.hid hP
    have HT := Lib.hid (tuL_isC hP)
    have HX := Lib.hid (shape_law hP)
    have HL := Lib.hid (shape_lsh hP)
    have htl := tuL_le f
    clear hP
    go_wp2_with fail
    refine (implTurned_any _ _ _ _ _ (RI.of_own oF)).mono ?_
    rintro e W6 ⟨v_, rfl, oT, b⟩
    obtain ⟨A_oT, c_oT, rfl⟩ := own_slice oT
    replace oG0 := oG0.below b
    replace oG1 := oG1.below b
    replace hbel := hbel.trans (b.mono hbel.size)
    clear b oF
    rw [HF.out]
    go_wp2_with fail
    refine (implShape_any _ _ _ _ _ (RI.of_own oT) (by omega)).mono ?_
    rintro e W7 ⟨v0_, v1_, m7, rfl, m7a, m7b, oA0, oA1, b⟩
    replace oG0 := oG0.below b
    replace oG1 := oG1.below b
    replace hbel := hbel.trans (b.mono hbel.size)
    clear b oT
    obtain ⟨A_A0, n_A0, c_A0, rfl, hn_A0⟩ := oA0.form_
    obtain ⟨A_A1, n_A1, c_A1, rfl, hn_A1⟩ := oA1.form_
    rw [HX.out.1] at oA0 hn_A0
    rw [HX.out.2] at oA1 hn_A1
    rw [HT.out]
    have hb_A0 : n_A0 ≤ 12 := by omega
    have hb_A1 : n_A1 ≤ 12 := by omega
    clear hn_A0 hn_A1 hR0 hR1
    have HLC := Lib.hid HL.out.1
    have HLY := Lib.hid HL.out.2.1
    have HSM := Lib.hid HL.out.2.2
    clear HX HF HT HL
    generalize shCL f = Cs at *
    generalize shYL f = Ys at *
    have rG0 := ri_oi_ oG0
    have rG1 := ri_oi_ oG1
    have hz0 := HLC.out.all
    have hz1 := HLY.out.all
    clear m2a m2b m3a m3b m7a m7b
    go_wp2
    go_loopw [15, 16] (fun s i wr => ∃ k : Nat, k ≤ n_G0 ∧ i = .int .i64 (k : Int) ∧ s = .int .i64 (smI (Cs.take k)) ∧ Below W7.heap.size W7 wr) (fun _ i _ => n_G0 - (intOf i).toNat)
    case atStart => exact ⟨0, Nat.zero_le _, rfl, rfl, Below.refl _ _⟩
    case round =>
      obtain ⟨k, hk, rfl, rfl, hb⟩ := hrel
      by_cases hlt : k < n_G0
      · obtain ⟨ad, rfl, hab, hc⟩ := rG0.at_ hlt
        have g := (hb.cell (p := ad.add k) (by rw [block_of_add]; exact hab)).trans hc
        clear hc
        have hstep := HLC.out.step (k := k) (by rw [← HG0.out]; exact hlt)
        have HS1 := Lib.hid hstep.2.2.2.2
        have hst := And.intro hstep.1 (And.intro hstep.2.1 (And.intro hstep.2.2.1 hstep.2.2.2.1))
        clear hstep
        by_cases hk0 : 0 < k
        · obtain ⟨p, hpk⟩ : ∃ p, p + 1 = k := ⟨k - 1, by omega⟩
          obtain ⟨ad', he, hab', hc'⟩ := rG0.at_ (k := p) (by omega)
          obtain rfl := Option.some.inj he
          have g' := (hb.cell (p := ad.add p) (by rw [block_of_add]; exact hab')).trans hc'
          clear hc'
          have ho := HLC.out.order (k := p) (by rw [← HG0.out]; omega)
          rw [hpk] at ho
          have hqp : (k : Int) - 1 = (p : Int) := by omega
          have hpn : (p : Int) < (n_G0 : Int) := by omega
          have hp6 : p ≤ 1048576 := by omega
          have hg1 : decide ((0 : Int) < (k : Int)) = true := decide_eq_true (by omega)
          generalize Cs[k]?.getD 0 = x at *
          generalize Cs[p]?.getD 0 = y at *
          generalize smI (Cs.take k) = s at *
          obtain ⟨h1, h2, h3, h4⟩ := hst
          have hd : decide (x < y) = false := decide_eq_false (by omega)
          clear hpk
          go_wp2
          go_quiet (fail)
          all_goals go_wp2
          go_roundw
          case rel => exact ⟨k + 1, by omega, by go_num, by rw [HS1.out], below_drewN hb _⟩
          case measure => simp [intOf]; omega
        · have hg1 : decide ((0 : Int) < (k : Int)) = false := decide_eq_false (by omega)
          generalize Cs[k]?.getD 0 = x at *
          generalize smI (Cs.take k) = s at *
          obtain ⟨h1, h2, h3, h4⟩ := hst
          go_wp2
          go_quiet (fail)
          all_goals go_wp2
          go_roundw
          case rel => exact ⟨k + 1, by omega, by go_num, by rw [HS1.out], below_drewN hb _⟩
          case measure => simp [intOf]; omega
      · obtain rfl : k = n_G0 := by omega
        have hsum : smI (Cs.take k) = smI Cs := by rw [HG0.out, List.take_length]
        rw [hsum]
        clear hsum hk
        go_wp2
        go_loopw [15, 17] (fun s i wq => ∃ k : Nat, k ≤ n_G1 ∧ i = .int .i64 (k : Int) ∧ s = .int .i64 (smI Cs + smI (Ys.take k)) ∧ Below W7.heap.size W7 wq) (fun _ i _ => n_G1 - (intOf i).toNat)
        case atStart => exact ⟨0, Nat.zero_le _, rfl, by simp [smI], hb⟩
        case round =>
          clear hb
          obtain ⟨k, hk, rfl, rfl, hb⟩ := hrel
          by_cases hlt : k < n_G1
          · obtain ⟨ad, rfl, hab, hc⟩ := rG1.at_ hlt
            have g := (hb.cell (p := ad.add k) (by rw [block_of_add]; exact hab)).trans hc
            clear hc
            have hstep := HLY.out.step (k := k) (by rw [← HG1.out]; exact hlt)
            have HS1 := Lib.hid hstep.2.2.2.2
            have hst := And.intro hstep.1 (And.intro hstep.2.1 (And.intro hstep.2.2.1 hstep.2.2.2.1))
            clear hstep
            by_cases hk0 : 0 < k
            · obtain ⟨p, hpk⟩ : ∃ p, p + 1 = k := ⟨k - 1, by omega⟩
              obtain ⟨ad', he, hab', hc'⟩ := rG1.at_ (k := p) (by omega)
              obtain rfl := Option.some.inj he
              have g' := (hb.cell (p := ad.add p) (by rw [block_of_add]; exact hab')).trans hc'
              clear hc'
              have ho := HLY.out.order (k := p) (by rw [← HG1.out]; omega)
              rw [hpk] at ho
              have hqp : (k : Int) - 1 = (p : Int) := by omega
              have hpn : (p : Int) < (n_G1 : Int) := by omega
              have hp6 : p ≤ 1048576 := by omega
              have hg1 : decide ((0 : Int) < (k : Int)) = true := decide_eq_true (by omega)
              generalize Ys[k]?.getD 0 = x at *
              generalize Ys[p]?.getD 0 = y at *
              generalize smI (Ys.take k) = s at *
              obtain ⟨h1, h2, h3, h4⟩ := hst
              have hd : decide (x < y) = false := decide_eq_false (by omega)
              clear hpk
              go_wp2
              go_quiet (fail)
              all_goals go_wp2
              go_roundw
              case rel => exact ⟨k + 1, by omega, by go_num, by rw [HS1.out, Int.add_assoc], below_drewN hb _⟩
              case measure => simp [intOf]; omega
            · have hg1 : decide ((0 : Int) < (k : Int)) = false := decide_eq_false (by omega)
              generalize Ys[k]?.getD 0 = x at *
              generalize smI (Ys.take k) = s at *
              obtain ⟨h1, h2, h3, h4⟩ := hst
              go_wp2
              go_quiet (fail)
              all_goals go_wp2
              go_roundw
              case rel => exact ⟨k + 1, by omega, by go_num, by rw [HS1.out, Int.add_assoc], below_drewN hb _⟩
              case measure => simp [intOf]; omega
          · obtain rfl : k = n_G1 := by omega
            have hsum : smI Cs + smI (Ys.take k) = (f.length : Int) := by rw [HG1.out, List.take_length]; exact HSM.out
            rw [hsum]
            clear hsum hk hlt hz0 hz1
            replace oG0 := oG0.below hb
            replace oG1 := oG1.below hb
            replace oA0 := oA0.below hb
            replace oA1 := oA1.below hb
            replace hbel := hbel.trans (hb.mono hbel.size)
            clear hb rG0 rG1
            go_wp2_with fail
            refine (sameInts_any _ _ _ _ _ _ _ _ _ (ri_oi_ oA0) (ri_oi_ oG0) (by omega)).mono ?_
            rintro e W8 ⟨rfl, b⟩
            replace oG1 := oG1.below b
            replace oA1 := oA1.below b
            replace hbel := hbel.trans (b.mono hbel.size)
            clear b
            go_wp2_with fail
            refine (sameInts_any _ _ _ _ _ _ _ _ _ (ri_oi_ oA1) (ri_oi_ oG1) (by omega)).mono ?_
            rintro e W9 ⟨rfl, b⟩
            replace hbel := hbel.trans (b.mono hbel.size)
            clear b
            go_wp2
            go_ret
            exact ⟨rfl, hbel⟩

/-! ### THE ROW's STEP: WRITTEN OUT: LEAVE IT -/
set_option maxRecDepth 100000 in
theorem lifted (os : Os) (started : os.Started) (H : Type) (enc : TypeId × Value → H) :
    ReturnsInHanded {} Try.checked os 5 .any (Rows.fnShapeSpec.pre6 enc Try.prog Try.f5 Rows.fnShapeRow.domain false) (Rows.fnShapeSpec.post enc Try.prog Try.f5 false true false false) := by
  refine returnsInHanded_of_change (C := Try.checked) own started (by kernel_rfl) Try.func5
    (ChangeSpec.witness6 (enc := enc) (C := Try.checked) false ⟨#[], #[.slice none 0 0], []⟩ 8 (by kernel_rfl) (by kernel_rfl) (by kernel_rfl) (by kernel_rfl)) ?_
  intro W base args ds gs before hval0 hW hcnd _
  have hval : ∀ (j : Nat) t v, Try.f5.params[j]? = some t → args[j]? = some v → Value.okWide Try.prog W .any base t v := hval0
  have hW' := hW
  obtain ⟨p, q, hA0, hV, rfl, hfz, hnd⟩ := hW
  have hA : DataW.TrodAll enc Try.prog W 0 (fun _ => true) true Try.f5.params.toList args.toList ds p := hA0
  rw [Try.params5] at hA hval
  obtain ⟨v0, vs0, d0, ds0, p0, q0, hargs, rfl, rfl, h0, r0⟩ := trodAll_cons hA
  obtain ⟨rfl, rfl, rfl⟩ := trodAll_nil r0
  obtain rfl : args = #[v0] := by cases args; simp_all
  obtain ⟨rfl, rfl⟩ := trodVars_none hV
  obtain ⟨a0, len0, cap0, rfl⟩ := okWide_slice Try.underlying22 (hval 0 22 v0 rfl rfl)
  have k0 := h0
  have lt0 : ∀ x ∈ p0, x.block < W.heap.size := by obtain ⟨m, hm⟩ := k0; exact DataW.trod_lt m _ _ _ hm
  obtain ⟨z0, w0⟩ : ∃ zs, IsRow .u8 W a0 len0 cap0 zs := by
    obtain ⟨fuel, hf⟩ := h0
    rcases open_ints Try.underlying22 Try.underlying5 (by kernel_rfl) hf with ⟨hcs, _⟩ | ⟨x, l, c, zs, hcs, _, hl, hm, hz, _, hcell, hwz⟩
    · simp [Value.cells] at hcs
      obtain ⟨rfl, rfl, rfl⟩ := hcs
      exact ⟨[], .inl ⟨rfl, rfl, rfl, rfl⟩⟩
    · simp [Value.cells] at hcs
      obtain ⟨rfl, rfl, rfl⟩ := hcs
      exact ⟨zs, .inr ⟨_, rfl, hl, hm, by simpa using hz, hcell, hwz⟩⟩
  clear hA0 hval0
  refine (walk a0 len0 cap0 z0 W w0).mono fun e W' ⟨he, bel⟩ => ?_
  subst he
  exact ⟨_, rfl, _, _, _, [], _, [], hW', trodAll_mk1 (shut_bool Try.underlying4 _), (trodAll_cons_mk (Below.trod laidOut (by kernel_rfl) (of_decide_eq_true (by kernel_rfl)) k0 bel lt0) trodAll_mk0), rfl, bel.frame _, fun h => by cases h⟩

theorem over : Rows.fnShapeRow.holds Try.pinned (OpenSpec.ofChange Rows.fnShapeSpec) :=
  OpenClaim.holds_of_wide 5 Try.f5 rfl rfl rfl rfl rfl rfl rfl ⟨rfl, rfl, rfl, rfl, rfl⟩ rfl rfl rfl rfl rfl (by kernel_rfl) Try.func5 (by kernel_rfl)
    (of_decide_eq_true (by kernel_rfl)) (by unfold Func.isWrapper; first | (rw [if_pos (by decide +kernel)]; kernel_rfl) | (rw [if_neg (by decide +kernel)]; exact ⟨rfl, rfl⟩))
    (fun os started H enc _ => lifted os started H enc)

/-- ████ THE STATEMENT ████ -/
theorem proved : Rows.FnShapeSaid := over
#print axioms proved
end Go.Proofs.Ytckppfgooflooab.fnShape
