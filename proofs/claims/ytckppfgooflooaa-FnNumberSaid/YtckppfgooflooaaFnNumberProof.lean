/-
  FnNumber: for every input the law returns true and leaves its arguments as they were. No condition.
-/
import Derived.Test.YtckppfgooflooaaRows
import Derived.Test.YtckppfgooflooaaMF
import Derived.Test.YtckppfgooflooaaMG
import Derived.WalkKit
import Derived.Deep.QuietTactic
import Derived.BigQuiet
import Derived.Outline
import Derived.ProofKit
import Derived.OpenShut
import Derived.ShutString
import Derived.ChangeOld
import Derived.Below
namespace Go.Proofs.Ytckppfgooflooaa.fnNumber
set_option maxRecDepth 100000
open Go.ChangeShapes Go.WideShapes Go.ChangeAt Go.RowKit
open Go.ChangeMaps (open_string shut_string)
set_option linter.unusedVariables false

theorem own : ownKnob Try.prog.godebug = none := by kernel_rfl
theorem laidOut : laidOutB Try.prog = true := by kernel_rfl

/-- WHAT THE WALK IS TOLD OF A SLICE OF INTEGERS THAT CAME IN: it is nil; or it leads to a row of 'cap' cells, the numbers 'zs' (the first 'len' are its elements, the rest its spare room), each fitting its kind. -/
def IsRow (k : IntKind) (w : World) (a : Option Addr) (len cap : Nat) (zs : List Int) : Prop :=
  (a = none ∧ len = 0 ∧ cap = 0 ∧ zs = []) ∨
  ∃ x, a = some x ∧ len ≤ cap ∧ cap ≤ maxLen ∧ zs.length = cap ∧ (∀ i, i < zs.length → w.cell? (x.add i) = some (.int k (zs.getD i 0))) ∧ ∀ n ∈ zs, (Lit.int k n).wf = true

theorem src_of {w : World} {a : Option Addr} {len cap : Nat} {zs : List Int} (h : IsRow .u8 w a len cap zs) : ∃ bs : Nat → Nat, Src w w.heap.size a len bs ∧ len ≤ cap := by
  rcases h with ⟨rfl, rfl, rfl, rfl⟩ | ⟨x, rfl, hlc, _, hz, hc, hw⟩
  · exact ⟨fun _ => 0, ⟨fun _ => (by decide : (0 : Nat) < 256), fun j hj => absurd hj (by omega)⟩, Nat.le_refl _⟩
  · have hr : ∀ j, 0 ≤ zs.getD j 0 ∧ zs.getD j 0 < 256 := fun j => by
      rcases Nat.lt_or_ge j zs.length with h | h
      · have := hw zs[j] (List.getElem_mem h)
        rw [List.getD_eq_getElem?_getD, List.getElem?_eq_getElem h]
        simp [Lit.wf] at this
        have h0 : IntKind.u8.min = 0 := by decide
        have h1 : IntKind.u8.max = 255 := by decide
        rw [h0, h1] at this
        simp
        omega
      · rw [List.getD_eq_getElem?_getD, List.getElem?_eq_none h]; simp
    refine ⟨fun j => (zs.getD j 0).toNat, ⟨fun j => by have := hr j; show (zs.getD j 0).toNat < 256; omega, fun j hj => ⟨x, rfl, ?_, ?_⟩⟩, hlc⟩
    · have := block_lt_of_cell (hc 0 (by omega)); rwa [block_of_add] at this
    · rw [hc j (by omega), Int.toNat_of_nonneg (hr j).1]

/-! ### STEP 1: THE WALK: the Go text returns true, AND WRITES NOTHING THAT WAS THERE: 'Below w.heap.size w w'' (Derived/Below.lean: '.refl', '.alloc', '.drew', '.setCell' at a new block, '.trans'). Open each 'IsRow' by 'rcases' AHEAD of 'go_enter'; part every test ahead of the walk. -/
set_option maxHeartbeats 4000000 in
theorem walk (a0 : Option Addr) (len0 cap0 : Nat) (z0 : List Int) (w : World) (w0 : IsRow .u8 w a0 len0 cap0 z0) :
    Calls Try.prog 3 #[.slice a0 len0 cap0] w fun e w' => e = .returned (.bool true) ∧ Below w.heap.size w w' := by
  obtain ⟨bs, hS, hlc⟩ := src_of w0
  clear w0
  by_cases hbig : 1048576 < len0
  · go_enter Try.func3, Try.ntmps3
    go_wp2
    go_ret
    exact ⟨rfl, Below.refl _ _⟩
  go_enter Try.func3, Try.ntmps3
  go_wp2_with fail
  refine (drawNumber_any _ _ _ _ _ hS hlc (by omega)).mono ?_
  rintro e W1 ⟨k, hk, rfl, hbel⟩
  clear hS
  go_wp2_with fail
  refine (implNumber_any _ _).mono ?_
  rintro e W2 ⟨rfl, rfl⟩
  go_wp2_with fail
  refine (specNumber_any _ _).mono ?_
  rintro e W3 ⟨rfl, rfl⟩
  by_cases h0 : k = 0 ∨ k = 14
  · have hI : inB ((k : Int) - 1) 0 12 = false := decide_eq_false (by omega)
    rw [hI]
    clear hI
    go_wp2
    go_ret
    exact ⟨rfl, hbel⟩
  · obtain ⟨m, hm⟩ : ∃ m, k = m + 1 := ⟨k - 1, by omega⟩
    have hmk : (k : Int) - 1 = (m : Int) := by omega
    have hm12 : m ≤ 12 := by omega
    have hI := numL_of hm12
    rw [hmk, hI.1, hI.2]
    have hlim := num_lim ⟨m, by omega⟩
    simp only at hlim
    clear hI hmk hm h0
    by_cases h2 : m < 2
    · have hv : (numN m : Int) = (m : Int) + 1 := by
        have : m = 0 ∨ m = 1 := by omega
        rcases this with rfl | rfl
        · rw [num_two.1]; rfl
        · rw [num_two.2]; rfl
      have hb : ((numN m : Int) == (m : Int) + 1) = true := by rw [hv]; simp
      clear hv
      go_wp2
      go_ret
      exact ⟨rfl, hbel⟩
    · obtain ⟨j, hj⟩ : ∃ j, m = j + 2 := ⟨m - 2, by omega⟩
      have hon := num_on ⟨j, by omega⟩
      simp only at hon
      have hm1 : (m : Int) - 1 = ((j + 1 : Nat) : Int) := by omega
      have hm2 : (m : Int) - 2 = (j : Int) := by omega
      have hIa := numL_of (show j + 1 ≤ 12 by omega)
      have hIb := numL_of (show j ≤ 12 by omega)
      have hla := num_lim ⟨j + 1, by omega⟩
      have hlb := num_lim ⟨j, by omega⟩
      simp only at hla hlb
      have HA := Lib.hid hIa
      have HB := Lib.hid hIb
      have HM1 := Lib.hid hm1
      have HM2 := Lib.hid hm2
      have hon' := hon
      rw [← hj, show ((j : Int) + 2) = (m : Int) by omega, show ((j : Int) + 1) = (m : Int) - 1 by omega] at hon'
      have HON := Lib.hid hon'
      clear hj hon'
      clear hon hm1 hm2 hIa hIb
      go_wp2_with fail
      rw [HM1.out]
      refine (implNumber_any _ _).mono ?_
      rintro e W4 ⟨rfl, rfl⟩
      rw [HA.out.1, HA.out.2]
      go_wp2_with fail
      rw [HM2.out]
      refine (implNumber_any _ _).mono ?_
      rintro e W5 ⟨rfl, rfl⟩
      rw [HB.out.1, HB.out.2]
      have hon' := HON.out
      clear HON
      generalize numN m = x at hon' hlim ⊢
      generalize numN (j + 1) = y at hon' hla ⊢
      generalize numN j = z at hon' hlb ⊢
      have b1 : 2 * m * y ≤ 24 * 281474976710656 := Nat.mul_le_mul (by omega) (by omega)
      have b0 : (m - 1) * (m - 1) ≤ 11 * 11 := Nat.mul_le_mul (by omega) (by omega)
      have b2 : (m - 1) * (m - 1) * z ≤ 121 * 281474976710656 := Nat.mul_le_mul (by omega) (by omega)
      have e1 : (2 * (m : Int) * (y : Int)) = ((2 * m * y : Nat) : Int) := by push_cast; rfl
      have e0 : (((m : Int) - 1) * ((m : Int) - 1)) = (((m - 1) * (m - 1) : Nat) : Int) := by rw [show ((m : Int) - 1) = ((m - 1 : Nat) : Int) by omega]; push_cast; rfl
      rw [e1, e0] at hon'
      generalize 2 * m * y = P at e1 b1 hon'
      generalize (m - 1) * (m - 1) = r at e0 b0 b2 hon'
      have e2 : (r : Int) * (z : Int) = ((r * z : Nat) : Int) := by push_cast; rfl
      rw [e2] at hon'
      generalize r * z = Q at e2 b2 hon'
      have hb : ((x : Int) == (P : Int) - (Q : Int)) = true := by rw [hon']; simp
      clear hon'
      go_wp2
      go_ret
      exact ⟨rfl, hbel⟩

/-! ### THE ROW's STEP: WRITTEN OUT: LEAVE IT -/
set_option maxRecDepth 100000 in
theorem lifted (os : Os) (started : os.Started) (H : Type) (enc : TypeId × Value → H) :
    ReturnsInHanded {} Try.checked os 3 .any (Rows.fnNumberSpec.pre6 enc Try.prog Try.f3 Rows.fnNumberRow.domain false) (Rows.fnNumberSpec.post enc Try.prog Try.f3 false true false false) := by
  refine returnsInHanded_of_change (C := Try.checked) own started (by kernel_rfl) Try.func3
    (ChangeSpec.witness6 (enc := enc) (C := Try.checked) false ⟨#[], #[.slice none 0 0], []⟩ 8 (by kernel_rfl) (by kernel_rfl) (by kernel_rfl) (by kernel_rfl)) ?_
  intro W base args ds gs before hval0 hW hcnd _
  have hval : ∀ (j : Nat) t v, Try.f3.params[j]? = some t → args[j]? = some v → Value.okWide Try.prog W .any base t v := hval0
  have hW' := hW
  obtain ⟨p, q, hA0, hV, rfl, hfz, hnd⟩ := hW
  have hA : DataW.TrodAll enc Try.prog W 0 (fun _ => true) true Try.f3.params.toList args.toList ds p := hA0
  rw [Try.params3] at hA hval
  obtain ⟨v0, vs0, d0, ds0, p0, q0, hargs, rfl, rfl, h0, r0⟩ := trodAll_cons hA
  obtain ⟨rfl, rfl, rfl⟩ := trodAll_nil r0
  obtain rfl : args = #[v0] := by cases args; simp_all
  obtain ⟨rfl, rfl⟩ := trodVars_none hV
  obtain ⟨a0, len0, cap0, rfl⟩ := okWide_slice Try.underlying22 (hval 0 22 v0 rfl rfl)
  have k0 := h0
  have lt0 : ∀ x ∈ p0, x.block < W.heap.size := by obtain ⟨m, hm⟩ := k0; exact DataW.trod_lt m _ _ _ hm
  obtain ⟨z0, w0⟩ : ∃ zs, IsRow .u8 W a0 len0 cap0 zs := by
    obtain ⟨fuel, hf⟩ := h0
    rcases open_ints Try.underlying22 Try.underlying5 (by kernel_rfl) hf with ⟨hcs, _⟩ | ⟨x, l, c, zs, hcs, _, hl, hm, hz, _, hcell, hwz⟩
    · simp [Value.cells] at hcs
      obtain ⟨rfl, rfl, rfl⟩ := hcs
      exact ⟨[], .inl ⟨rfl, rfl, rfl, rfl⟩⟩
    · simp [Value.cells] at hcs
      obtain ⟨rfl, rfl, rfl⟩ := hcs
      exact ⟨zs, .inr ⟨_, rfl, hl, hm, by simpa using hz, hcell, hwz⟩⟩
  clear hA0 hval0
  refine (walk a0 len0 cap0 z0 W w0).mono fun e W' ⟨he, bel⟩ => ?_
  subst he
  exact ⟨_, rfl, _, _, _, [], _, [], hW', trodAll_mk1 (shut_bool Try.underlying4 _), (trodAll_cons_mk (Below.trod laidOut (by kernel_rfl) (of_decide_eq_true (by kernel_rfl)) k0 bel lt0) trodAll_mk0), rfl, bel.frame _, fun h => by cases h⟩

theorem over : Rows.fnNumberRow.holds Try.pinned (OpenSpec.ofChange Rows.fnNumberSpec) :=
  OpenClaim.holds_of_wide 3 Try.f3 rfl rfl rfl rfl rfl rfl rfl ⟨rfl, rfl, rfl, rfl, rfl⟩ rfl rfl rfl rfl rfl (by kernel_rfl) Try.func3 (by kernel_rfl)
    (of_decide_eq_true (by kernel_rfl)) (by unfold Func.isWrapper; first | (rw [if_pos (by decide +kernel)]; kernel_rfl) | (rw [if_neg (by decide +kernel)]; exact ⟨rfl, rfl⟩))
    (fun os started H enc _ => lifted os started H enc)

/-- ████ THE STATEMENT ████ -/
theorem proved : Rows.FnNumberSaid := over
#print axioms proved
end Go.Proofs.Ytckppfgooflooaa.fnNumber
