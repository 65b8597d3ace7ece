/-
  FnClasses: for every input the law returns true and leaves its arguments as they were. No condition.
-/
import Derived.Test.YtigapanfihpgaaaGreatDoorRows
import Derived.Test.YtigapanfihpgaaaGreatDoorCards
import Derived.Test.YtigapanfihpgaaaGreatDoorTie
import Derived.Test.YtigapanfihpgaaaGreatDoorMF
import Derived.Test.YtigapanfihpgaaaGreatDoorOV
import Derived.Test.YtigapanfihpgaaaGreatDoorNV
import Derived.Test.YtigapanfihpgaaaGreatDoorOD
import Derived.Test.YtigapanfihpgaaaGreatDoorOE
import Derived.Test.YtigapanfihpgaaaGreatDoorOX
import Derived.WalkKit
import Derived.Deep.QuietTactic
import Derived.BigQuiet
import Derived.Outline
import Derived.ProofKit
import Derived.OpenShut
import Derived.ShutString
import Derived.ChangeOld
import Derived.Below
import Derived.ChangeSame
import Derived.ChangeVars
import Derived.JoinedOf
import Derived.RowKit
import Derived.RowKitTokens
import Derived.LaidLaws
import Derived.LaidHandle
import Derived.Stop.Joined
import Derived.SevenTiedAt
namespace Go.Proofs.YtigapanfihpgaaaGreatDoor.fnClasses
set_option maxRecDepth 100000
open Go.ChangeShapes Go.WideShapes Go.ChangeAt Go.RowKit
open Go.ChangeMaps (open_string shut_string)
set_option linter.unusedVariables false

theorem own : ownKnob Tryz.prog.godebug = none := by kernel_rfl
theorem laidOut : laidOutB Tryz.prog = true := by kernel_rfl

def IsRow (k : IntKind) (w : World) (a : Option Addr) (len cap : Nat) (zs : List Int) : Prop :=
  (a = none ∧ len = 0 ∧ cap = 0 ∧ zs = []) ∨
  ∃ x, a = some x ∧ len ≤ cap ∧ cap ≤ maxLen ∧ zs.length = cap ∧ (∀ i, i < zs.length → w.cell? (x.add i) = some (.int k (zs.getD i 0))) ∧ ∀ n ∈ zs, (Lit.int k n).wf = true

theorem src_of {w : World} {a : Option Addr} {len cap : Nat} {zs : List Int} (h : IsRow .u8 w a len cap zs) : ∃ bs : Nat → Nat, Src w w.heap.size a len bs ∧ len ≤ cap := by
  rcases h with ⟨rfl, rfl, rfl, rfl⟩ | ⟨x, rfl, hlc, _, hz, hc, hw⟩
  · exact ⟨fun _ => 0, ⟨fun _ => (by decide : (0 : Nat) < 256), fun j hj => absurd hj (by omega)⟩, Nat.le_refl _⟩
  · have hr : ∀ j, 0 ≤ zs.getD j 0 ∧ zs.getD j 0 < 256 := fun j => by
      rcases Nat.lt_or_ge j zs.length with h | h
      · have := hw zs[j] (List.getElem_mem h)
        rw [List.getD_eq_getElem?_getD, List.getElem?_eq_getElem h]
        simp [Lit.wf] at this
        have h0 : IntKind.u8.min = 0 := by decide
        have h1 : IntKind.u8.max = 255 := by decide
        rw [h0, h1] at this
        simp
        omega
      · rw [List.getD_eq_getElem?_getD, List.getElem?_eq_none h]; simp
    refine ⟨fun j => (zs.getD j 0).toNat, ⟨fun j => by have := hr j; show (zs.getD j 0).toNat < 256; omega, fun j hj => ⟨x, rfl, ?_, ?_⟩⟩, hlc⟩
    · have := block_lt_of_cell (hc 0 (by omega)); rwa [block_of_add] at this
    · rw [hc j (by omega), Int.toNat_of_nonneg (hr j).1]

set_option maxHeartbeats 4000000 in
theorem walk (a0 : Option Addr) (len0 cap0 : Nat) (z0 : List Int) (w : World) (het : EtAt w) (w0 : IsRow .u8 w a0 len0 cap0 z0) :
    Calls Tryz.prog 7 #[.slice a0 len0 cap0] w fun e w' => e = .returned (.bool true) ∧ Below w.heap.size w w' := by
  have HET := Lib.hid het
  clear het
  obtain ⟨bs, hS, hlc⟩ := src_of w0
  clear w0
  by_cases hbig : 1048576 < len0
  · go_enter Tryz.func7, Tryz.ntmps7
    go_wp2
    go_ret
    exact ⟨rfl, Below.refl _ _⟩
  go_enter Tryz.func7, Tryz.ntmps7
  go_wp2_with fail
  refine (drawSgClasses_any _ _ _ _ _ hS hlc (by omega)).mono ?_
  rintro e W1 ⟨A, n, c, zs, rfl, hR, h4, hnc, h7, hbel⟩
  have H7 : Hid (∀ L ∈ zs, L.length ≤ 1048576) := fun L hL => by have := h7 L hL; omega
  have HLN := Lib.hid hR.len
  clear hS h7
  obtain ⟨X, hXE⟩ : ∃ X, (clsL zs) = X := ⟨_, rfl⟩
  obtain ⟨ob, hob⟩ : ∃ ob, (sgS zs) = ob := ⟨_, rfl⟩
  have hi := implClasses_any A n c zs W1 hR (HET.out.below hbel)
  rw [hXE, hob] at hi
  have HOB := Lib.hid hob
  have HXE := Lib.hid hXE
  have hle := clsL_le zs
  rw [hXE] at hle
  have HLE := Lib.hid hle
  clear hob hXE hle
  go_wp2_with fail
  refine hi.mono ?_
  rintro e W2 ⟨v, rfl, oX, b⟩
  obtain ⟨Ax, cx, rfl⟩ := own_slice oX
  have hR2 := hR.below b
  replace hbel := hbel.trans (b.mono hbel.size)
  clear b hi hR
  have hs := specClasses_any A n c zs W2 hR2 (by omega) H7.out
  rw [HXE.out, HOB.out] at hs
  go_wp2_with fail
  refine hs.mono ?_
  rintro e W3 ⟨v, rfl, oW, b⟩
  obtain ⟨Aw, cw, rfl⟩ := own_slice oW
  have hR := hR2.below b
  have HOWN := Lib.hid (own_below oX b)
  have hX := (RI.of_own oX).below b
  have hW := RI.of_own oW
  have hX6 : X.length ≤ 1048576 := by have := HLE.out; omega
  clear oX oW hR2
  replace hbel := hbel.trans (b.mono hbel.size)
  clear b hs
  go_wp2_with fail
  refine (sameInts_any Ax Aw X.length X.length cx cw X X _ hX hW hX6).mono ?_
  rintro e W4 ⟨rfl, b⟩
  rw [show decide (X = X) = true from decide_eq_true rfl]
  replace hR := hR.below b
  replace hX := hX.below b
  replace hW := hW.below b
  replace hbel := hbel.trans (b.mono hbel.size)
  clear b
  cases ob
  · go_wp2_with fail
    refine (sameInts_any Ax Aw X.length X.length cx cw X X _ hX hW hX6).mono ?_
    rintro e W5 ⟨rfl, b⟩
    rw [show decide (X = X) = true from decide_eq_true rfl]
    replace hbel := hbel.trans (b.mono hbel.size)
    go_wp2
    go_ret
    exact ⟨rfl, hbel⟩
  · obtain ⟨a, g, hcl, ha, hag⟩ := classes_law HOB.out
    have HX3 : Hid (X = [(a : Int), (a : Int), (g : Int)]) := HXE.out.symm.trans hcl
    have hi2 := implIdems_any A n c zs W4 hR (HET.out.below hbel)
    have hale := (idL_le zs).1
    rw [HOB.out] at hi2
    obtain ⟨E, hE⟩ : ∃ E, idL zs = E := ⟨_, rfl⟩
    rw [hE] at hi2 ha hale
    have HA : Hid (a = E.length) := ha
    have ha4 : a ≤ 400 := by omega
    have hg4 : g ≤ 1048576 ∨ True := .inr trivial
    have HX4 := Lib.hid hX
    clear hcl ha hE hX hW hR hale hX6 hg4
    go_wp2_with fail
    refine hi2.mono ?_
    rintro e W5 ⟨v, rfl, oE, b⟩
    obtain ⟨Ae, ne, ce, rfl, hne⟩ := oE.form_
    have HNE : Hid (ne = a) := hne.trans HA.out.symm
    have hX5 := HX4.out.below b
    replace hbel := hbel.trans (b.mono hbel.size)
    clear b hi2 oE hne
    obtain rfl : ne = a := HNE.out
    obtain rfl := HX3.out
    obtain ⟨gx, cx', hv, _⟩ := HOWN.out.form (by simp)
    injection hv with hv1 _ hv3
    subst hv1
    obtain ⟨ax0, e0, _, h0⟩ := hX5.at_ (k := 0) (by simp)
    obtain ⟨ax1, e1, _, h1⟩ := hX5.at_ (k := 1) (by simp)
    obtain ⟨ax2, e2, _, h2⟩ := hX5.at_ (k := 2) (by simp)
    obtain rfl := Option.some.inj e0
    obtain rfl := Option.some.inj e1
    obtain rfl := Option.some.inj e2
    rw [Addr.add_mid] at h0 h1 h2
    simp only [List.getElem?_cons_zero, List.getElem?_cons_succ, Option.getD_some, Nat.zero_add, Nat.add_zero] at h0 h1 h2
    have hge : decide ((ne : Int) ≤ (g : Int)) = true := decide_eq_true (by omega)
    have hge2 : decide ((g : Int) ≥ (ne : Int)) = true := decide_eq_true (by omega)
    have hge3 : decide (ne ≤ g) = true := decide_eq_true hag
    clear e0 e1 e2 hX5 HX4 HXE HLE hv3 HOWN
    go_wp2_with fail
    go_region_held3 (fun w' => w'.cell? ⟨gx, 0, none⟩ = some (.int .i64 (ne : Int)) ∧ w'.cell? ⟨gx, 1, none⟩ = some (.int .i64 (ne : Int)) ∧ w'.cell? ⟨gx, 2, none⟩ = some (.int .i64 (g : Int)))
      (first | exact ⟨by assumption, by assumption, by assumption⟩ | go_keep)
      (fail)
    go_wp2
    go_ret
    exact ⟨rfl, ⟨hbel.os, hbel.tape, hbel.output, hbel.size, hbel.block⟩⟩

/-! ### THE ROW's STEP -/
theorem et : Tryz.prog.globalNamed "errors.errorType" = some 0 := by kernel_rfl
theorem rt : (Tryz.prog.cutTypes.find? (·.1 == "internal/reflectlite.rtype")).map (·.2) = some 141 := by kernel_rfl
theorem oneRow : ((List.range 201).filter fun t => Tryz.prog.rowNamed t [101, 114, 114, 111, 114]) = [85] := by kernel_rfl
theorem tsize : Tryz.prog.types.size = 201 := by kernel_rfl
abbrev laidL {H : Type} : List (String × DataW H) := [("errors.errorType", Rows.laid_errors_errorType)]
/-- what the condition gives a walk: the variable's one cell -/
theorem handle_of_laid {W : World} (h : laidMetH Tryz.prog laidL W) : EtAt W := by
  have h' : laidMet Tryz.prog [] W ∧ handlesMet Tryz.prog laidL W := h
  obtain ⟨name, u, ty, e1, e2, e3, e4, e5⟩ := h'.2 _ (List.mem_singleton.2 rfl)
  have en : name = [101, 114, 114, 111, 114] := (Option.some.inj e1).symm
  subst en
  obtain rfl := Option.some.inj (rt.symm.trans e2)
  have hm : ty ∈ (List.range 201).filter fun t => Tryz.prog.rowNamed t [101, 114, 114, 111, 114] := List.mem_filter.2 ⟨List.mem_range.2 (by rw [← tsize]; exact e3), e4⟩
  rw [oneRow] at hm
  obtain rfl := List.mem_singleton.1 hm
  have hh : typeHandle Tryz.prog 85 = .pointer (some ⟨1, 85, none⟩) := by kernel_rfl
  rw [hh] at e5
  unfold EtAt
  simpa using World.var?_cell et e5 0
/-- a world that meets the condition -/
noncomputable def laidWorld (os : Os) : World :=
  let w0 := World.holding Tryz.prog os ⟨#[], #[], []⟩
  { w0 with heap := w0.heap.modify 0 fun
      | .cells _ t frozen => .cells #[.iface 141 (.agg #[.pointer (some ⟨1, 85, none⟩)])] t frozen
      | o => o }
theorem laidWorld_met (os : Os) (args : Array Value) : laidMetH Tryz.prog laidL ((laidWorld os).forCall (fun _ _ => 0) ⟨#[], args, []⟩).memory :=
  laidMetH_of_parts (laidMet_nil _ _) (by kernel_rfl)

set_option maxRecDepth 100000 in
theorem lifted (os : Os) (started : os.Started) (H : Type) (enc : TypeId × Value → H) :
    ReturnsInHanded {} Tryz.checked os 7 .any (fun w args => (Rows.fnClassesSpec.pre enc Tryz.prog Tryz.f7 [] false w args ∧ laidMetH Tryz.prog laidL w) ∧ sizedMet enc Tryz.prog Tryz.f7 (OpenSpec.ofChange Rows.fnClassesSpec) false w args) (Rows.fnClassesSpec.post enc Tryz.prog Tryz.f7 false true false false) := by
  refine returnsInHanded_of_change_and (C := Tryz.checked) (X := fun w _ => laidMetH Tryz.prog laidL w) (fun _ _ _ hh h => h.of_heap hh) own started (by kernel_rfl) Tryz.func7
    (ChangeSpec.witness_at (enc := enc) (C := Tryz.checked) (os := os) (X := fun w _ => laidMetH Tryz.prog laidL w) false (laidWorld os) #[.slice none 0 0] 8 rfl (by kernel_rfl) (by kernel_rfl) (by kernel_rfl) (by kernel_rfl) (by kernel_rfl) (laidWorld_met os _)) ?_
  intro W base args ds gs before hval0 hW _ _ hL _
  have hval : ∀ (j : Nat) t v, Tryz.f7.params[j]? = some t → args[j]? = some v → Value.okWide Tryz.prog W .any base t v := hval0
  have hW' := hW
  obtain ⟨p, q, hA0, hV, rfl, hfz, hnd⟩ := hW
  have hA : DataW.TrodAll enc Tryz.prog W 0 (fun _ => true) true Tryz.f7.params.toList args.toList ds p := hA0
  rw [Tryz.params7] at hA hval
  obtain ⟨v0, vs0, d0, ds0, p0, q0, hargs, rfl, rfl, h0, r0⟩ := trodAll_cons hA
  obtain ⟨rfl, rfl, rfl⟩ := trodAll_nil r0
  obtain rfl : args = #[v0] := by cases args; simp_all
  obtain ⟨rfl, rfl⟩ := trodVars_none hV
  obtain ⟨a0, len0, cap0, rfl⟩ := okWide_slice Tryz.underlying22 (hval 0 22 v0 rfl rfl)
  have k0 := h0
  have lt0 : ∀ x ∈ p0, x.block < W.heap.size := by obtain ⟨m, hm⟩ := k0; exact DataW.trod_lt m _ _ _ hm
  obtain ⟨z0, w0⟩ : ∃ zs, IsRow .u8 W a0 len0 cap0 zs := by
    obtain ⟨fuel, hf⟩ := h0
    rcases open_ints Tryz.underlying22 Tryz.underlying5 (by kernel_rfl) hf with ⟨hcs, _⟩ | ⟨x, l, c, zs, hcs, _, hl, hm, hz, _, hcell, hwz⟩
    · simp [Value.cells] at hcs
      obtain ⟨rfl, rfl, rfl⟩ := hcs
      exact ⟨[], .inl ⟨rfl, rfl, rfl, rfl⟩⟩
    · simp [Value.cells] at hcs
      obtain ⟨rfl, rfl, rfl⟩ := hcs
      exact ⟨zs, .inr ⟨_, rfl, hl, hm, by simpa using hz, hcell, hwz⟩⟩
  clear hA0 hval0
  refine (walk a0 len0 cap0 z0 W (handle_of_laid hL) w0).mono fun e W' ⟨he, bel⟩ => ?_
  subst he
  exact ⟨_, rfl, _, _, _, [], _, [], hW', trodAll_mk1 (shut_bool Tryz.underlying4 _), (trodAll_cons_mk (Below.trod laidOut (by kernel_rfl) (of_decide_eq_true (by kernel_rfl)) k0 bel lt0) trodAll_mk0), rfl, bel.frame _, fun h => by cases h⟩

theorem over : Rows.fnClassesRow.holds Tryz.pinned (OpenSpec.ofChange Rows.fnClassesSpec) :=
  OpenClaim.holds_of_wide 7 Tryz.f7 rfl rfl rfl rfl rfl rfl rfl ⟨rfl, rfl, rfl, rfl, rfl⟩ rfl rfl rfl rfl rfl (by kernel_rfl) Tryz.func7 (by kernel_rfl)
    (of_decide_eq_true (by kernel_rfl)) (by unfold Func.isWrapper; first | (rw [if_pos (by decide +kernel)]; kernel_rfl) | (rw [if_neg (by decide +kernel)]; exact ⟨rfl, rfl⟩))
    (fun os started H enc _ => lifted os started H enc)

theorem proved : Rows.FnClassesCardSaid :=
  Claim7.holds_tied_plain_at .later [] [.handle] true _ true
    over (fun _ h => by cases h) (by kernel_rfl) (fun _ h => by cases h) fnClasses_row_tie rfl ⟨rfl, rfl⟩ (by kernel_rfl) rfl
    (fun f fn hf hfn => by
      obtain rfl : f = 7 := Option.some.inj ((show Tryz.prog.funcNamed Rows.fnClassesRow.func = some 7 by kernel_rfl).symm.trans hf) |>.symm
      obtain rfl : fn = Tryz.f7 := (Option.some.inj (Tryz.func7.symm.trans hfn)).symm
      exact ⟨by kernel_rfl, fun j t ht => by
        rw [Tryz.params7] at ht
        rcases j with _ | j
        · have h0 : t = 22 := by simpa using ht.symm
          subst h0
          exact (show Tryz.prog.wantsStandIn 22 = false by kernel_rfl)
        simp at ht⟩)
    (by kernel_rfl)
#print axioms proved
end Go.Proofs.YtigapanfihpgaaaGreatDoor.fnClasses
