/-
  FnLocal: for every input the law returns true and leaves its arguments as they were. No condition.
-/
import Derived.Test.YtdipcjnnknggnaaGreatDoorRows
import Derived.Test.YtdipcjnnknggnaaGreatDoorCards
import Derived.Test.YtdipcjnnknggnaaGreatDoorTie
import Derived.Test.YtdipcjnnknggnaaGreatDoorPK
import Derived.Test.YtdipcjnnknggnaaGreatDoorMF
import Derived.Test.YtdipcjnnknggnaaGreatDoorQX
import Derived.Test.YtdipcjnnknggnaaGreatDoorNS
import Derived.WalkKit
import Derived.Deep.QuietTactic
import Derived.BigQuiet
import Derived.Outline
import Derived.ProofKit
import Derived.OpenShut
import Derived.ShutString
import Derived.ChangeOld
import Derived.Below
import Derived.ChangeSame
import Derived.ChangeVars
import Derived.JoinedOf
import Derived.RowKit
import Derived.RowKitTokens
import Derived.LaidLaws
import Derived.LaidHandle
import Derived.Stop.Joined
import Derived.SevenTiedAt
namespace Go.Proofs.YtdipcjnnknggnaaGreatDoor.fnLocal
set_option maxRecDepth 100000
open Go.ChangeShapes Go.WideShapes Go.ChangeAt Go.RowKit
open Go.ChangeMaps (open_string shut_string)
set_option linter.unusedVariables false

theorem own : ownKnob Tryz.prog.godebug = none := by kernel_rfl
theorem laidOut : laidOutB Tryz.prog = true := by kernel_rfl

def IsRow (k : IntKind) (w : World) (a : Option Addr) (len cap : Nat) (zs : List Int) : Prop :=
  (a = none ∧ len = 0 ∧ cap = 0 ∧ zs = []) ∨
  ∃ x, a = some x ∧ len ≤ cap ∧ cap ≤ maxLen ∧ zs.length = cap ∧ (∀ i, i < zs.length → w.cell? (x.add i) = some (.int k (zs.getD i 0))) ∧ ∀ n ∈ zs, (Lit.int k n).wf = true

theorem src_of {w : World} {a : Option Addr} {len cap : Nat} {zs : List Int} (h : IsRow .u8 w a len cap zs) : ∃ bs : Nat → Nat, Src w w.heap.size a len bs ∧ len ≤ cap := by
  rcases h with ⟨rfl, rfl, rfl, rfl⟩ | ⟨x, rfl, hlc, _, hz, hc, hw⟩
  · exact ⟨fun _ => 0, ⟨fun _ => (by decide : (0 : Nat) < 256), fun j hj => absurd hj (by omega)⟩, Nat.le_refl _⟩
  · have hr : ∀ j, 0 ≤ zs.getD j 0 ∧ zs.getD j 0 < 256 := fun j => by
      rcases Nat.lt_or_ge j zs.length with h | h
      · have := hw zs[j] (List.getElem_mem h)
        rw [List.getD_eq_getElem?_getD, List.getElem?_eq_getElem h]
        simp [Lit.wf] at this
        have h0 : IntKind.u8.min = 0 := by decide
        have h1 : IntKind.u8.max = 255 := by decide
        rw [h0, h1] at this
        simp
        omega
      · rw [List.getD_eq_getElem?_getD, List.getElem?_eq_none h]; simp
    refine ⟨fun j => (zs.getD j 0).toNat, ⟨fun j => by have := hr j; show (zs.getD j 0).toNat < 256; omega, fun j hj => ⟨x, rfl, ?_, ?_⟩⟩, hlc⟩
    · have := block_lt_of_cell (hc 0 (by omega)); rwa [block_of_add] at this
    · rw [hc j (by omega), Int.toNat_of_nonneg (hr j).1]

set_option maxHeartbeats 4000000 in
theorem walk (a0 : Option Addr) (len0 cap0 : Nat) (z0 : List Int) (w : World) (het : EtAt w) (w0 : IsRow .u8 w a0 len0 cap0 z0) :
    Calls Tryz.prog 4 #[.slice a0 len0 cap0] w fun e w' => e = .returned (.bool true) ∧ Below w.heap.size w w' := by
  have HET := Lib.hid het
  clear het
  obtain ⟨bs, hS, hlc⟩ := src_of w0
  clear w0
  by_cases hbig : 1048576 < len0
  · go_enter Tryz.func4, Tryz.ntmps4
    go_wp2
    go_ret
    exact ⟨rfl, Below.refl _ _⟩
  go_enter Tryz.func4, Tryz.ntmps4
  go_wp2_with fail
  refine (drawSgLocal_any _ _ _ _ _ hS hlc (by omega)).mono ?_
  rintro e W1 ⟨A, n, c, zs, s, rfl, hR, h4, hnc, h7, hbel⟩
  have H7 : Hid (∀ L ∈ zs, L.length ≤ 1048576) := fun L hL => by have := h7 L hL; omega
  have HLN := Lib.hid hR.len
  clear hS h7
  obtain ⟨ob, hob⟩ : ∃ ob, (obB zs s) = ob := ⟨_, rfl⟩
  have hi := implLoc_any A n c zs s W1 hR (HET.out.below hbel)
  rw [hob] at hi
  have HOB := Lib.hid hob
  clear hob
  go_wp2_with fail
  refine hi.mono ?_
  rintro e W2 ⟨rfl, b⟩
  have hR2 := hR.below b
  replace hbel := hbel.trans (b.mono hbel.size)
  clear b hi hR
  have hs := specLoc_any A n c zs s W2 hR2 (by omega) H7.out
  rw [HOB.out] at hs
  go_wp2_with fail
  refine hs.mono ?_
  rintro e W3 ⟨rfl, b⟩
  have hR := hR2.below b
  clear hR2
  replace hbel := hbel.trans (b.mono hbel.size)
  clear b hs
  cases ob
  · generalize (frL zs s s).length = N at *
    go_wp2
    go_ret
    exact ⟨rfl, hbel⟩
  · have hS := obB_sg HOB.out
    have HG := Lib.hid (loc_group hS HOB.out)
    have hF := implFrm_any A n c zs s s W3 hR (HET.out.below hbel)
    rw [HOB.out] at hF
    clear hS
    go_wp2_with fail
    refine hF.mono ?_
    rintro e W4 ⟨v, rfl, oX, b⟩
    have hbel4 := hbel.trans (b.mono hbel.size)
    obtain ⟨Ax, cx, rfl⟩ := oX.slice
    have hX := rss_oss_ oX
    have hg := implGroup_any Ax _ cx (frL zs s s) W4 hX (HET.out.below hbel4)
    rw [HG.out] at hg
    clear oX b hF hR hX hbel
    generalize (frL zs s s).length = N at *
    go_wp2_with fail
    refine hg.mono ?_
    rintro e W5 ⟨rfl, b⟩
    have hbel5 := hbel4.trans (b.mono hbel4.size)
    clear b hg hbel4
    go_wp2
    go_ret
    exact ⟨rfl, hbel5⟩

/-! ### THE ROW's STEP -/
theorem et : Tryz.prog.globalNamed "errors.errorType" = some 0 := by kernel_rfl
theorem rt : (Tryz.prog.cutTypes.find? (·.1 == "internal/reflectlite.rtype")).map (·.2) = some 192 := by kernel_rfl
theorem oneRow : ((List.range 251).filter fun t => Tryz.prog.rowNamed t [101, 114, 114, 111, 114]) = [99] := by kernel_rfl
theorem tsize : Tryz.prog.types.size = 251 := by kernel_rfl
abbrev laidL {H : Type} : List (String × DataW H) := [("errors.errorType", Rows.laid_errors_errorType)]
/-- what the condition gives a walk: the variable's one cell -/
theorem handle_of_laid {W : World} (h : laidMetH Tryz.prog laidL W) : EtAt W := by
  have h' : laidMet Tryz.prog [] W ∧ handlesMet Tryz.prog laidL W := h
  obtain ⟨name, u, ty, e1, e2, e3, e4, e5⟩ := h'.2 _ (List.mem_singleton.2 rfl)
  have en : name = [101, 114, 114, 111, 114] := (Option.some.inj e1).symm
  subst en
  obtain rfl := Option.some.inj (rt.symm.trans e2)
  have hm : ty ∈ (List.range 251).filter fun t => Tryz.prog.rowNamed t [101, 114, 114, 111, 114] := List.mem_filter.2 ⟨List.mem_range.2 (by rw [← tsize]; exact e3), e4⟩
  rw [oneRow] at hm
  obtain rfl := List.mem_singleton.1 hm
  have hh : typeHandle Tryz.prog 99 = .pointer (some ⟨1, 99, none⟩) := by kernel_rfl
  rw [hh] at e5
  unfold EtAt
  simpa using World.var?_cell et e5 0
/-- a world that meets the condition -/
noncomputable def laidWorld (os : Os) : World :=
  let w0 := World.holding Tryz.prog os ⟨#[], #[], []⟩
  { w0 with heap := w0.heap.modify 0 fun
      | .cells _ t frozen => .cells #[.iface 192 (.agg #[.pointer (some ⟨1, 99, none⟩)])] t frozen
      | o => o }
theorem laidWorld_met (os : Os) (args : Array Value) : laidMetH Tryz.prog laidL ((laidWorld os).forCall (fun _ _ => 0) ⟨#[], args, []⟩).memory :=
  laidMetH_of_parts (laidMet_nil _ _) (by kernel_rfl)

set_option maxRecDepth 100000 in
theorem lifted (os : Os) (started : os.Started) (H : Type) (enc : TypeId × Value → H) :
    ReturnsInHanded {} Tryz.checked os 4 .any (fun w args => (Rows.fnLocalSpec.pre enc Tryz.prog Tryz.f4 [] false w args ∧ laidMetH Tryz.prog laidL w) ∧ sizedMet enc Tryz.prog Tryz.f4 (OpenSpec.ofChange Rows.fnLocalSpec) false w args) (Rows.fnLocalSpec.post enc Tryz.prog Tryz.f4 false true false false) := by
  refine returnsInHanded_of_change_and (C := Tryz.checked) (X := fun w _ => laidMetH Tryz.prog laidL w) (fun _ _ _ hh h => h.of_heap hh) own started (by kernel_rfl) Tryz.func4
    (ChangeSpec.witness_at (enc := enc) (C := Tryz.checked) (os := os) (X := fun w _ => laidMetH Tryz.prog laidL w) false (laidWorld os) #[.slice none 0 0] 8 rfl (by kernel_rfl) (by kernel_rfl) (by kernel_rfl) (by kernel_rfl) (by kernel_rfl) (laidWorld_met os _)) ?_
  intro W base args ds gs before hval0 hW _ _ hL _
  have hval : ∀ (j : Nat) t v, Tryz.f4.params[j]? = some t → args[j]? = some v → Value.okWide Tryz.prog W .any base t v := hval0
  have hW' := hW
  obtain ⟨p, q, hA0, hV, rfl, hfz, hnd⟩ := hW
  have hA : DataW.TrodAll enc Tryz.prog W 0 (fun _ => true) true Tryz.f4.params.toList args.toList ds p := hA0
  rw [Tryz.params4] at hA hval
  obtain ⟨v0, vs0, d0, ds0, p0, qq0, hargs, rfl, rfl, h0, r0⟩ := trodAll_cons hA
  obtain ⟨rfl, rfl, rfl⟩ := trodAll_nil r0
  obtain rfl : args = #[v0] := by cases args; simp_all
  obtain ⟨rfl, rfl⟩ := trodVars_none hV
  obtain ⟨a0, len0, cap0, rfl⟩ := okWide_slice Tryz.underlying22 (hval 0 22 v0 rfl rfl)
  have k0 := h0
  have lt0 : ∀ x ∈ p0, x.block < W.heap.size := by obtain ⟨m, hm⟩ := k0; exact DataW.trod_lt m _ _ _ hm
  obtain ⟨z0, w0⟩ : ∃ zs, IsRow .u8 W a0 len0 cap0 zs := by
    obtain ⟨fuel, hf⟩ := h0
    rcases open_ints Tryz.underlying22 Tryz.underlying5 (by kernel_rfl) hf with ⟨hcs, _⟩ | ⟨x, l, c, zs, hcs, _, hl, hm, hz, _, hcell, hwz⟩
    · simp [Value.cells] at hcs
      obtain ⟨rfl, rfl, rfl⟩ := hcs
      exact ⟨[], .inl ⟨rfl, rfl, rfl, rfl⟩⟩
    · simp [Value.cells] at hcs
      obtain ⟨rfl, rfl, rfl⟩ := hcs
      exact ⟨zs, .inr ⟨_, rfl, hl, hm, by simpa using hz, hcell, hwz⟩⟩
  clear hA0 hval0
  refine (walk a0 len0 cap0 z0 W (handle_of_laid hL) w0).mono fun e W' ⟨he, bel⟩ => ?_
  subst he
  exact ⟨_, rfl, _, _, _, [], _, [], hW', trodAll_mk1 (shut_bool Tryz.underlying4 _), (trodAll_cons_mk (Below.trod laidOut (by kernel_rfl) (of_decide_eq_true (by kernel_rfl)) k0 bel lt0) trodAll_mk0), rfl, bel.frame _, fun h => by cases h⟩

theorem over : Rows.fnLocalRow.holds Tryz.pinned (OpenSpec.ofChange Rows.fnLocalSpec) :=
  OpenClaim.holds_of_wide_leaving 4 Tryz.f4 rfl rfl rfl rfl rfl rfl rfl ⟨rfl, rfl, rfl, rfl, rfl⟩ rfl rfl rfl rfl rfl (by kernel_rfl) Tryz.func4 (by kernel_rfl)
    (of_decide_eq_true (by kernel_rfl)) (by unfold Func.isWrapper; first | (rw [if_pos (by decide +kernel)]; kernel_rfl) | (rw [if_neg (by decide +kernel)]; exact ⟨rfl, rfl⟩))
    (fun os started H enc _ => leaving_of_handed (lifted os started H enc))

theorem proved : Rows.FnLocalCardSaid :=
  tied_goes .later [] [.handle] true _ true
    over (fun _ h => by cases h) (by kernel_rfl) (fun _ h => by cases h) fnLocal_row_tie rfl ⟨rfl, rfl⟩ (by kernel_rfl) rfl
    (fun f fn hf hfn => by
      obtain rfl : f = 4 := Option.some.inj ((show Tryz.prog.funcNamed Rows.fnLocalRow.func = some 4 by kernel_rfl).symm.trans hf) |>.symm
      obtain rfl : fn = Tryz.f4 := (Option.some.inj (Tryz.func4.symm.trans hfn)).symm
      exact ⟨by kernel_rfl, fun j t ht => by
        rw [Tryz.params4] at ht
        rcases j with _ | j
        · have h0 : t = 22 := by simpa using ht.symm
          subst h0
          exact (show Tryz.prog.wantsStandIn 22 = false by kernel_rfl)
        simp at ht⟩)
    (by kernel_rfl)
#print axioms proved
end Go.Proofs.YtdipcjnnknggnaaGreatDoor.fnLocal
