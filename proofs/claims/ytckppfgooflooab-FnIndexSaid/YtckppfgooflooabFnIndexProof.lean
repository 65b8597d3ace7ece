/-
  FnIndex: for every input the law returns true and leaves its arguments as they were. No condition.
-/
import Derived.Test.YtckppfgooflooabRows
import Derived.Test.YtckppfgooflooabMF
import Derived.Test.YtckppfgooflooabMG
import Derived.Test.YtckppfgooflooabMH
import Derived.Test.YtckppfgooflooabMI
import Derived.WalkKit
import Derived.Deep.QuietTactic
import Derived.BigQuiet
import Derived.Outline
import Derived.ProofKit
import Derived.OpenShut
import Derived.ShutString
import Derived.ChangeOld
import Derived.Below
namespace Go.Proofs.Ytckppfgooflooab.fnIndex
set_option maxRecDepth 100000
open Go.ChangeShapes Go.WideShapes Go.ChangeAt Go.RowKit
open Go.ChangeMaps (open_string shut_string)
set_option linter.unusedVariables false

theorem own : ownKnob Try.prog.godebug = none := by kernel_rfl
theorem laidOut : laidOutB Try.prog = true := by kernel_rfl

/-- WHAT THE WALK IS TOLD OF A SLICE OF INTEGERS THAT CAME IN: it is nil; or it leads to a row of 'cap' cells, the numbers 'zs' (the first 'len' are its elements, the rest its spare room), each fitting its kind. -/
def IsRow (k : IntKind) (w : World) (a : Option Addr) (len cap : Nat) (zs : List Int) : Prop :=
  (a = none ∧ len = 0 ∧ cap = 0 ∧ zs = []) ∨
  ∃ x, a = some x ∧ len ≤ cap ∧ cap ≤ maxLen ∧ zs.length = cap ∧ (∀ i, i < zs.length → w.cell? (x.add i) = some (.int k (zs.getD i 0))) ∧ ∀ n ∈ zs, (Lit.int k n).wf = true

theorem src_of {w : World} {a : Option Addr} {len cap : Nat} {zs : List Int} (h : IsRow .u8 w a len cap zs) : ∃ bs : Nat → Nat, Src w w.heap.size a len bs ∧ len ≤ cap := by
  rcases h with ⟨rfl, rfl, rfl, rfl⟩ | ⟨x, rfl, hlc, _, hz, hc, hw⟩
  · exact ⟨fun _ => 0, ⟨fun _ => (by decide : (0 : Nat) < 256), fun j hj => absurd hj (by omega)⟩, Nat.le_refl _⟩
  · have hr : ∀ j, 0 ≤ zs.getD j 0 ∧ zs.getD j 0 < 256 := fun j => by
      rcases Nat.lt_or_ge j zs.length with h | h
      · have := hw zs[j] (List.getElem_mem h)
        rw [List.getD_eq_getElem?_getD, List.getElem?_eq_getElem h]
        simp [Lit.wf] at this
        have h0 : IntKind.u8.min = 0 := by decide
        have h1 : IntKind.u8.max = 255 := by decide
        rw [h0, h1] at this
        simp
        omega
      · rw [List.getD_eq_getElem?_getD, List.getElem?_eq_none h]; simp
    refine ⟨fun j => (zs.getD j 0).toNat, ⟨fun j => by have := hr j; show (zs.getD j 0).toNat < 256; omega, fun j hj => ⟨x, rfl, ?_, ?_⟩⟩, hlc⟩
    · have := block_lt_of_cell (hc 0 (by omega)); rwa [block_of_add] at this
    · rw [hc j (by omega), Int.toNat_of_nonneg (hr j).1]

/-! ### STEP 1: THE WALK: the Go text returns true, AND WRITES NOTHING THAT WAS THERE: 'Below w.heap.size w w'' (Derived/Below.lean: '.refl', '.alloc', '.drew', '.setCell' at a new block, '.trans'). Open each 'IsRow' by 'rcases' AHEAD of 'go_enter'; part every test ahead of the walk. -/
set_option maxHeartbeats 4000000 in
theorem walk (a0 : Option Addr) (len0 cap0 : Nat) (z0 : List Int) (w : World) (w0 : IsRow .u8 w a0 len0 cap0 z0) :
    Calls Try.prog 8 #[.slice a0 len0 cap0] w fun e w' => e = .returned (.bool true) ∧ Below w.heap.size w w' := by
  obtain ⟨bs, hS, hlc⟩ := src_of w0
  clear w0
  by_cases hbig : 1048576 < len0
  · go_enter Try.func8, Try.ntmps8
    go_wp2
    go_ret
    exact ⟨rfl, Below.refl _ _⟩
  go_enter Try.func8, Try.ntmps8
  go_wp2_with fail
  refine (drawIndex_any _ _ _ _ _ hS hlc (by omega)).mono ?_
  rintro e W1 ⟨v, rfl, f, hf, oF, hbel⟩
  obtain ⟨A_F, c_F, rfl⟩ := own_slice oF
  clear hS
  have hs1 := hbel.size
  go_wp2_with fail
  refine (implIndex_any _ _ _ _ _ (RI.of_own oF) (by omega)).mono ?_
  rintro e W2 ⟨rfl, b⟩
  replace oF := own_below oF b
  replace hbel := hbel.trans (b.mono hbel.size)
  clear b
  go_wp2_with fail
  refine (specIndex_any _ _ _ _ _ (RI.of_own oF) (by omega)).mono ?_
  rintro e W3 ⟨rfl, b⟩
  replace oF := own_below oF b
  replace hbel := hbel.trans (b.mono hbel.size)
  clear b
  cases hP : isC f
  · go_wp2
    go_ret
    exact ⟨rfl, hbel⟩
  · have HF := Lib.hid hP
    have HX := Lib.hid (index_law hP)
    have hl6 := (isC_len hP).2
    have hix := (index_law hP).1
    clear hP
    have hpl := powL_le f (idxL f : Int)
    have hpl2 := powL_le f ((idxL f : Int) + 1)
    go_wp2_with fail
    refine (implPower_any _ _ _ _ _ _ (RI.of_own oF) (by omega)).mono ?_
    rintro e W4 ⟨v_, rfl, oA, b⟩
    obtain ⟨A_oA, c_oA, rfl⟩ := own_slice oA
    replace oF := own_below oF b
    replace hbel := hbel.trans (b.mono hbel.size)
    clear b
    rw [HX.out.2.1]
    go_wp2_with fail
    refine (implPower_any _ _ _ _ _ _ (RI.of_own oF) (by omega)).mono ?_
    rintro e W5 ⟨v_, rfl, oB, b⟩
    obtain ⟨A_oB, c_oB, rfl⟩ := own_slice oB
    replace oF := own_below oF b
    replace oA := own_below oA b
    replace hbel := hbel.trans (b.mono hbel.size)
    clear b
    rw [HX.out.2.2.1]
    go_wp2_with fail
    refine (implRank_any _ _ _ _ _ (RI.of_own oA)).mono ?_
    rintro e W6 ⟨rfl, b⟩
    replace oF := own_below oF b
    replace oA := own_below oA b
    replace oB := own_below oB b
    replace hbel := hbel.trans (b.mono hbel.size)
    clear b
    rw [HX.out.2.2.2.1]
    go_wp2_with fail
    refine (implRank_any _ _ _ _ _ (RI.of_own oB)).mono ?_
    rintro e W7 ⟨rfl, b⟩
    replace oF := own_below oF b
    replace oA := own_below oA b
    replace oB := own_below oB b
    replace hbel := hbel.trans (b.mono hbel.size)
    clear b
    rw [HX.out.2.2.2.2.1]
    go_wp2_with fail
    refine (implRank_any _ _ _ _ _ (RI.of_own oF)).mono ?_
    rintro e W8 ⟨rfl, b⟩
    replace oF := own_below oF b
    replace oA := own_below oA b
    replace oB := own_below oB b
    replace hbel := hbel.trans (b.mono hbel.size)
    clear b
    rw [HF.out]
    have hr := HX.out.2.2.2.2.2.1
    have HZ := Lib.hid HX.out.2.2.2.2.2.2
    rw [hr]
    clear hr
    generalize popK (doN (powL f ((idxL f : Int) + 1))) 6 = x
    have hle : decide ((idxL f : Int) ≤ (f.length : Int)) = true := decide_eq_true (by omega)
    have hzz : (((idxL f : Int) == 0) == ((popK (doN f) 6 : Int) == (f.length : Int))) = true := by
      by_cases h0 : idxL f = 0
      · have h1 := HZ.out.1 h0; rw [h0, h1]; simp
      · have h1 : popK (doN f) 6 ≠ f.length := fun h => h0 (HZ.out.2 h)
        have e1 : ((idxL f : Int) == 0) = false := by rw [beq_eq_false_iff_ne]; omega
        have e2 : ((popK (doN f) 6 : Int) == (f.length : Int)) = false := by rw [beq_eq_false_iff_ne]; omega
        rw [e1, e2]; rfl
    go_wp2
    go_ret
    exact ⟨rfl, hbel⟩

/-! ### THE ROW's STEP: WRITTEN OUT: LEAVE IT -/
set_option maxRecDepth 100000 in
theorem lifted (os : Os) (started : os.Started) (H : Type) (enc : TypeId × Value → H) :
    ReturnsInHanded {} Try.checked os 8 .any (Rows.fnIndexSpec.pre6 enc Try.prog Try.f8 Rows.fnIndexRow.domain false) (Rows.fnIndexSpec.post enc Try.prog Try.f8 false true false false) := by
  refine returnsInHanded_of_change (C := Try.checked) own started (by kernel_rfl) Try.func8
    (ChangeSpec.witness6 (enc := enc) (C := Try.checked) false ⟨#[], #[.slice none 0 0], []⟩ 8 (by kernel_rfl) (by kernel_rfl) (by kernel_rfl) (by kernel_rfl)) ?_
  intro W base args ds gs before hval0 hW hcnd _
  have hval : ∀ (j : Nat) t v, Try.f8.params[j]? = some t → args[j]? = some v → Value.okWide Try.prog W .any base t v := hval0
  have hW' := hW
  obtain ⟨p, q, hA0, hV, rfl, hfz, hnd⟩ := hW
  have hA : DataW.TrodAll enc Try.prog W 0 (fun _ => true) true Try.f8.params.toList args.toList ds p := hA0
  rw [Try.params8] at hA hval
  obtain ⟨v0, vs0, d0, ds0, p0, q0, hargs, rfl, rfl, h0, r0⟩ := trodAll_cons hA
  obtain ⟨rfl, rfl, rfl⟩ := trodAll_nil r0
  obtain rfl : args = #[v0] := by cases args; simp_all
  obtain ⟨rfl, rfl⟩ := trodVars_none hV
  obtain ⟨a0, len0, cap0, rfl⟩ := okWide_slice Try.underlying22 (hval 0 22 v0 rfl rfl)
  have k0 := h0
  have lt0 : ∀ x ∈ p0, x.block < W.heap.size := by obtain ⟨m, hm⟩ := k0; exact DataW.trod_lt m _ _ _ hm
  obtain ⟨z0, w0⟩ : ∃ zs, IsRow .u8 W a0 len0 cap0 zs := by
    obtain ⟨fuel, hf⟩ := h0
    rcases open_ints Try.underlying22 Try.underlying5 (by kernel_rfl) hf with ⟨hcs, _⟩ | ⟨x, l, c, zs, hcs, _, hl, hm, hz, _, hcell, hwz⟩
    · simp [Value.cells] at hcs
      obtain ⟨rfl, rfl, rfl⟩ := hcs
      exact ⟨[], .inl ⟨rfl, rfl, rfl, rfl⟩⟩
    · simp [Value.cells] at hcs
      obtain ⟨rfl, rfl, rfl⟩ := hcs
      exact ⟨zs, .inr ⟨_, rfl, hl, hm, by simpa using hz, hcell, hwz⟩⟩
  clear hA0 hval0
  refine (walk a0 len0 cap0 z0 W w0).mono fun e W' ⟨he, bel⟩ => ?_
  subst he
  exact ⟨_, rfl, _, _, _, [], _, [], hW', trodAll_mk1 (shut_bool Try.underlying4 _), (trodAll_cons_mk (Below.trod laidOut (by kernel_rfl) (of_decide_eq_true (by kernel_rfl)) k0 bel lt0) trodAll_mk0), rfl, bel.frame _, fun h => by cases h⟩

theorem over : Rows.fnIndexRow.holds Try.pinned (OpenSpec.ofChange Rows.fnIndexSpec) :=
  OpenClaim.holds_of_wide 8 Try.f8 rfl rfl rfl rfl rfl rfl rfl ⟨rfl, rfl, rfl, rfl, rfl⟩ rfl rfl rfl rfl rfl (by kernel_rfl) Try.func8 (by kernel_rfl)
    (of_decide_eq_true (by kernel_rfl)) (by unfold Func.isWrapper; first | (rw [if_pos (by decide +kernel)]; kernel_rfl) | (rw [if_neg (by decide +kernel)]; exact ⟨rfl, rfl⟩))
    (fun os started H enc _ => lifted os started H enc)

/-- ████ THE STATEMENT ████ -/
theorem proved : Rows.FnIndexSaid := over
#print axioms proved
end Go.Proofs.Ytckppfgooflooab.fnIndex
