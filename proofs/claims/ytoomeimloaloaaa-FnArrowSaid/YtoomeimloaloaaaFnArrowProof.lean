/-
  FnArrow: for every input the law returns true and leaves its arguments as they were. No condition.
-/
import Derived.Test.YtoomeimloaloaaaRows
import Derived.Test.YtoomeimloaloaaaAd
import Derived.Test.YtoomeimloaloaaaAm
import Derived.Test.YtoomeimloaloaaaAk
import Derived.WalkKit
import Derived.Deep.QuietTactic
import Derived.BigQuiet
import Derived.Outline
import Derived.ProofKit
import Derived.OpenShut
import Derived.ShutString
import Derived.ChangeOld
import Derived.Below
namespace Go.Proofs.Ytoomeimloaloaaa.fnArrow
set_option maxRecDepth 100000
open Go.ChangeShapes Go.WideShapes Go.ChangeAt Go.RowKit
open Go.ChangeMaps (open_string shut_string)
set_option linter.unusedVariables false

theorem own : ownKnob Try.prog.godebug = none := by kernel_rfl
theorem laidOut : laidOutB Try.prog = true := by kernel_rfl

/-- WHAT THE WALK IS TOLD OF A SLICE OF INTEGERS THAT CAME IN: it is nil; or it leads to a row of 'cap' cells, the numbers 'zs' (the first 'len' are its elements, the rest its spare room), each fitting its kind. -/
def IsRow (k : IntKind) (w : World) (a : Option Addr) (len cap : Nat) (zs : List Int) : Prop :=
  (a = none ∧ len = 0 ∧ cap = 0 ∧ zs = []) ∨
  ∃ x, a = some x ∧ len ≤ cap ∧ cap ≤ maxLen ∧ zs.length = cap ∧ (∀ i, i < zs.length → w.cell? (x.add i) = some (.int k (zs.getD i 0))) ∧ ∀ n ∈ zs, (Lit.int k n).wf = true

theorem src_of {w : World} {a : Option Addr} {len cap : Nat} {zs : List Int} (h : IsRow .u8 w a len cap zs) : ∃ bs : Nat → Nat, Src w w.heap.size a len bs ∧ len ≤ cap := by
  rcases h with ⟨rfl, rfl, rfl, rfl⟩ | ⟨x, rfl, hlc, _, hz, hc, hw⟩
  · exact ⟨fun _ => 0, ⟨fun _ => (by decide : (0 : Nat) < 256), fun j hj => absurd hj (by omega)⟩, Nat.le_refl _⟩
  · have hr : ∀ j, 0 ≤ zs.getD j 0 ∧ zs.getD j 0 < 256 := fun j => by
      rcases Nat.lt_or_ge j zs.length with h | h
      · have := hw zs[j] (List.getElem_mem h)
        rw [List.getD_eq_getElem?_getD, List.getElem?_eq_getElem h]
        simp [Lit.wf] at this
        have h0 : IntKind.u8.min = 0 := by decide
        have h1 : IntKind.u8.max = 255 := by decide
        rw [h0, h1] at this
        simp
        omega
      · rw [List.getD_eq_getElem?_getD, List.getElem?_eq_none h]; simp
    refine ⟨fun j => (zs.getD j 0).toNat, ⟨fun j => by have := hr j; show (zs.getD j 0).toNat < 256; omega, fun j hj => ⟨x, rfl, ?_, ?_⟩⟩, hlc⟩
    · have := block_lt_of_cell (hc 0 (by omega)); rwa [block_of_add] at this
    · rw [hc j (by omega), Int.toNat_of_nonneg (hr j).1]

/-! ### STEP 1: THE WALK: the Go text returns true, AND WRITES NOTHING THAT WAS THERE: 'Below w.heap.size w w'' (Derived/Below.lean: '.refl', '.alloc', '.drew', '.setCell' at a new block, '.trans'). Open each 'IsRow' by 'rcases' AHEAD of 'go_enter'; part every test ahead of the walk. -/
set_option maxHeartbeats 4000000 in
theorem walk (a0 : Option Addr) (len0 cap0 : Nat) (z0 : List Int) (w : World) (w0 : IsRow .u8 w a0 len0 cap0 z0) :
    Calls Try.prog 6 #[.slice a0 len0 cap0] w fun e w' => e = .returned (.bool true) ∧ Below w.heap.size w w' := by
  obtain ⟨bs, hS, hlc⟩ := src_of w0
  clear w0
  by_cases hbig : 1048576 < len0
  · go_enter Try.func6, Try.ntmps6
    go_wp2
    go_ret
    exact ⟨rfl, Below.refl _ _⟩
  go_enter Try.func6, Try.ntmps6
  go_wp2_with fail
  refine (drawJTimes_any _ _ _ _ _ hS hlc (by omega)).mono ?_
  rintro e W1 ⟨v, u, rfl, f, g, hf, hg, oF, oG, -, hbel⟩
  obtain ⟨A_F, c_F, rfl⟩ := own_slice oF
  obtain ⟨A_G, c_G, rfl⟩ := own_slice oG
  clear hS
  have hs1 := hbel.size
  go_wp2_with fail
  refine (implAT_any _ _ _ _ _ _ _ _ _ (RI.of_own oF) (RI.of_own oG)).mono ?_
  rintro e W2 ⟨v_, rfl, oP, b2⟩
  obtain ⟨A_P, c_P, rfl⟩ := own_slice oP
  replace oF := own_below oF b2
  replace oG := own_below oG b2
  replace hbel := hbel.trans (b2.mono hbel.size)
  clear b2
  go_wp2_with fail
  refine (specAT_any _ _ _ _ _ _ _ _ _ (RI.of_own oF) (RI.of_own oG) (by omega) (by omega)).mono ?_
  rintro e W3 ⟨v_, rfl, oQ, b3⟩
  obtain ⟨A_Q, c_Q, rfl⟩ := own_slice oQ
  replace oF := own_below oF b3
  replace oG := own_below oG b3
  replace oP := own_below oP b3
  replace hbel := hbel.trans (b3.mono hbel.size)
  clear b3
  have hPl := atL_le f g
  cases hP : joB f g
  · go_wp2_with fail
    refine (sameInts_any _ _ _ _ _ _ _ _ _ (RI.of_own oP) (RI.of_own oQ) (by omega)).mono ?_
    rintro e W4 ⟨rfl, b4⟩
    replace oF := own_below oF b4
    replace oG := own_below oG b4
    replace oP := own_below oP b4
    replace oQ := own_below oQ b4
    replace hbel := hbel.trans (b4.mono hbel.size)
    clear b4
    go_wp2_with fail
    refine (sameInts_any _ _ _ _ _ _ _ _ _ (RI.of_own oP) (RI.of_own oQ) (by omega)).mono ?_
    rintro e W5 ⟨rfl, b5⟩
    replace oF := own_below oF b5
    replace oG := own_below oG b5
    replace oP := own_below oP b5
    replace oQ := own_below oQ b5
    replace hbel := hbel.trans (b5.mono hbel.size)
    clear b5
    go_wp2
    go_ret
    exact ⟨rfl, hbel⟩
  · go_wp2_with fail
    refine (sameInts_any _ _ _ _ _ _ _ _ _ (RI.of_own oP) (RI.of_own oQ) (by omega)).mono ?_
    rintro e W4 ⟨rfl, b4⟩
    replace oF := own_below oF b4
    replace oG := own_below oG b4
    replace oP := own_below oP b4
    replace oQ := own_below oQ b4
    replace hbel := hbel.trans (b4.mono hbel.size)
    clear b4
    clear oQ
    have H := Lib.hid (arrow_law hP)
    have hl1 := tiL_le f g
    go_wp2_with fail
    refine (implDomain_any _ _ _ _ _ (RI.of_own oP)).mono ?_
    rintro e W5 ⟨rfl, b5⟩
    rw [H.out.1]
    rw [H.out.2.2.2.2.1]
    replace oF := own_below oF b5
    replace oG := own_below oG b5
    replace oP := own_below oP b5
    replace hbel := hbel.trans (b5.mono hbel.size)
    clear b5
    go_wp2_with fail
    refine (implDomain_any _ _ _ _ _ (RI.of_own oF)).mono ?_
    rintro e W6 ⟨rfl, b6⟩
    rw [H.out.2.1]
    replace oF := own_below oF b6
    replace oG := own_below oG b6
    replace oP := own_below oP b6
    replace hbel := hbel.trans (b6.mono hbel.size)
    clear b6
    go_wp2_with fail
    refine (implRange_any _ _ _ _ _ (RI.of_own oP)).mono ?_
    rintro e W7 ⟨rfl, b7⟩
    rw [H.out.1]
    rw [H.out.2.2.2.2.2.1]
    replace oF := own_below oF b7
    replace oG := own_below oG b7
    replace oP := own_below oP b7
    replace hbel := hbel.trans (b7.mono hbel.size)
    clear b7
    go_wp2_with fail
    refine (implRange_any _ _ _ _ _ (RI.of_own oG)).mono ?_
    rintro e W8 ⟨rfl, b8⟩
    rw [H.out.2.2.1]
    replace oF := own_below oF b8
    replace oG := own_below oG b8
    replace oP := own_below oP b8
    replace hbel := hbel.trans (b8.mono hbel.size)
    clear b8
    go_wp2_with fail
    refine (implTimes_any _ _ _ _ _ _ _ _ _ (RI.of_own oF) (RI.of_own oG)).mono ?_
    rintro e W9 ⟨v_, rfl, oX, b9⟩
    rw [H.out.2.2.2.1]
    obtain ⟨A_X, c_X, rfl⟩ := own_slice oX
    replace oF := own_below oF b9
    replace oG := own_below oG b9
    replace oP := own_below oP b9
    replace hbel := hbel.trans (b9.mono hbel.size)
    clear b9
    go_wp2_with fail
    refine (sameInts_any _ _ _ _ _ _ _ _ _ (RI.of_own oX) (RI.of_own oP) (by omega)).mono ?_
    rintro e W10 ⟨rfl, b10⟩
    rw [decide_eq_true H.out.2.2.2.2.2.2]
    replace oF := own_below oF b10
    replace oG := own_below oG b10
    replace oP := own_below oP b10
    replace oX := own_below oX b10
    replace hbel := hbel.trans (b10.mono hbel.size)
    clear b10
    go_wp2
    go_ret
    exact ⟨rfl, hbel⟩

/-! ### THE ROW's STEP: WRITTEN OUT: LEAVE IT -/
set_option maxRecDepth 100000 in
theorem lifted (os : Os) (started : os.Started) (H : Type) (enc : TypeId × Value → H) :
    ReturnsInHanded {} Try.checked os 6 .any (Rows.fnArrowSpec.pre6 enc Try.prog Try.f6 Rows.fnArrowRow.domain false) (Rows.fnArrowSpec.post enc Try.prog Try.f6 false true false false) := by
  refine returnsInHanded_of_change (C := Try.checked) own started (by kernel_rfl) Try.func6
    (ChangeSpec.witness6 (enc := enc) (C := Try.checked) false ⟨#[], #[.slice none 0 0], []⟩ 8 (by kernel_rfl) (by kernel_rfl) (by kernel_rfl) (by kernel_rfl)) ?_
  intro W base args ds gs before hval0 hW hcnd _
  have hval : ∀ (j : Nat) t v, Try.f6.params[j]? = some t → args[j]? = some v → Value.okWide Try.prog W .any base t v := hval0
  have hW' := hW
  obtain ⟨p, q, hA0, hV, rfl, hfz, hnd⟩ := hW
  have hA : DataW.TrodAll enc Try.prog W 0 (fun _ => true) true Try.f6.params.toList args.toList ds p := hA0
  rw [Try.params6] at hA hval
  obtain ⟨v0, vs0, d0, ds0, p0, q0, hargs, rfl, rfl, h0, r0⟩ := trodAll_cons hA
  obtain ⟨rfl, rfl, rfl⟩ := trodAll_nil r0
  obtain rfl : args = #[v0] := by cases args; simp_all
  obtain ⟨rfl, rfl⟩ := trodVars_none hV
  obtain ⟨a0, len0, cap0, rfl⟩ := okWide_slice Try.underlying28 (hval 0 28 v0 rfl rfl)
  have k0 := h0
  have lt0 : ∀ x ∈ p0, x.block < W.heap.size := by obtain ⟨m, hm⟩ := k0; exact DataW.trod_lt m _ _ _ hm
  obtain ⟨z0, w0⟩ : ∃ zs, IsRow .u8 W a0 len0 cap0 zs := by
    obtain ⟨fuel, hf⟩ := h0
    rcases open_ints Try.underlying28 Try.underlying5 (by kernel_rfl) hf with ⟨hcs, _⟩ | ⟨x, l, c, zs, hcs, _, hl, hm, hz, _, hcell, hwz⟩
    · simp [Value.cells] at hcs
      obtain ⟨rfl, rfl, rfl⟩ := hcs
      exact ⟨[], .inl ⟨rfl, rfl, rfl, rfl⟩⟩
    · simp [Value.cells] at hcs
      obtain ⟨rfl, rfl, rfl⟩ := hcs
      exact ⟨zs, .inr ⟨_, rfl, hl, hm, by simpa using hz, hcell, hwz⟩⟩
  clear hA0 hval0
  refine (walk a0 len0 cap0 z0 W w0).mono fun e W' ⟨he, bel⟩ => ?_
  subst he
  exact ⟨_, rfl, _, _, _, [], _, [], hW', trodAll_mk1 (shut_bool Try.underlying4 _), (trodAll_cons_mk (Below.trod laidOut (by kernel_rfl) (of_decide_eq_true (by kernel_rfl)) k0 bel lt0) trodAll_mk0), rfl, bel.frame _, fun h => by cases h⟩

theorem over : Rows.fnArrowRow.holds Try.pinned (OpenSpec.ofChange Rows.fnArrowSpec) :=
  OpenClaim.holds_of_wide 6 Try.f6 rfl rfl rfl rfl rfl rfl rfl ⟨rfl, rfl, rfl, rfl, rfl⟩ rfl rfl rfl rfl rfl (by kernel_rfl) Try.func6 (by kernel_rfl)
    (of_decide_eq_true (by kernel_rfl)) (by unfold Func.isWrapper; first | (rw [if_pos (by decide +kernel)]; kernel_rfl) | (rw [if_neg (by decide +kernel)]; exact ⟨rfl, rfl⟩))
    (fun os started H enc _ => lifted os started H enc)

/-- ████ THE STATEMENT ████ -/
theorem proved : Rows.FnArrowSaid := over
#print axioms proved
end Go.Proofs.Ytoomeimloaloaaa.fnArrow
