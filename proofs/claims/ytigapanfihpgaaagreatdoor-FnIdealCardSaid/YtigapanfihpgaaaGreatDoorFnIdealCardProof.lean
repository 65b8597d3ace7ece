/-
  FnIdeal: for every input the law returns true and leaves its arguments as they were. No condition.
-/
import Derived.Test.YtigapanfihpgaaaGreatDoorRows
import Derived.Test.YtigapanfihpgaaaGreatDoorCards
import Derived.Test.YtigapanfihpgaaaGreatDoorTie
import Derived.Test.YtigapanfihpgaaaGreatDoorMF
import Derived.Test.YtigapanfihpgaaaGreatDoorOV
import Derived.Test.YtigapanfihpgaaaGreatDoorOH
import Derived.Test.YtigapanfihpgaaaGreatDoorOI
import Derived.Test.YtigapanfihpgaaaGreatDoorOX
import Derived.WalkKit
import Derived.Deep.QuietTactic
import Derived.BigQuiet
import Derived.Outline
import Derived.ProofKit
import Derived.OpenShut
import Derived.ShutString
import Derived.ChangeOld
import Derived.Below
import Derived.ChangeSame
import Derived.ChangeVars
import Derived.JoinedOf
import Derived.RowKit
import Derived.RowKitTokens
import Derived.LaidLaws
import Derived.LaidHandle
import Derived.Stop.Joined
import Derived.SevenTiedAt
namespace Go.Proofs.YtigapanfihpgaaaGreatDoor.fnIdeal
set_option maxRecDepth 100000
open Go.ChangeShapes Go.WideShapes Go.ChangeAt Go.RowKit
open Go.ChangeMaps (open_string shut_string)
set_option linter.unusedVariables false

theorem own : ownKnob Tryz.prog.godebug = none := by kernel_rfl
theorem laidOut : laidOutB Tryz.prog = true := by kernel_rfl

def IsRow (k : IntKind) (w : World) (a : Option Addr) (len cap : Nat) (zs : List Int) : Prop :=
  (a = none ∧ len = 0 ∧ cap = 0 ∧ zs = []) ∨
  ∃ x, a = some x ∧ len ≤ cap ∧ cap ≤ maxLen ∧ zs.length = cap ∧ (∀ i, i < zs.length → w.cell? (x.add i) = some (.int k (zs.getD i 0))) ∧ ∀ n ∈ zs, (Lit.int k n).wf = true

theorem src_of {w : World} {a : Option Addr} {len cap : Nat} {zs : List Int} (h : IsRow .u8 w a len cap zs) : ∃ bs : Nat → Nat, Src w w.heap.size a len bs ∧ len ≤ cap := by
  rcases h with ⟨rfl, rfl, rfl, rfl⟩ | ⟨x, rfl, hlc, _, hz, hc, hw⟩
  · exact ⟨fun _ => 0, ⟨fun _ => (by decide : (0 : Nat) < 256), fun j hj => absurd hj (by omega)⟩, Nat.le_refl _⟩
  · have hr : ∀ j, 0 ≤ zs.getD j 0 ∧ zs.getD j 0 < 256 := fun j => by
      rcases Nat.lt_or_ge j zs.length with h | h
      · have := hw zs[j] (List.getElem_mem h)
        rw [List.getD_eq_getElem?_getD, List.getElem?_eq_getElem h]
        simp [Lit.wf] at this
        have h0 : IntKind.u8.min = 0 := by decide
        have h1 : IntKind.u8.max = 255 := by decide
        rw [h0, h1] at this
        simp
        omega
      · rw [List.getD_eq_getElem?_getD, List.getElem?_eq_none h]; simp
    refine ⟨fun j => (zs.getD j 0).toNat, ⟨fun j => by have := hr j; show (zs.getD j 0).toNat < 256; omega, fun j hj => ⟨x, rfl, ?_, ?_⟩⟩, hlc⟩
    · have := block_lt_of_cell (hc 0 (by omega)); rwa [block_of_add] at this
    · rw [hc j (by omega), Int.toNat_of_nonneg (hr j).1]

set_option maxHeartbeats 4000000 in
theorem walk (a0 : Option Addr) (len0 cap0 : Nat) (z0 : List Int) (w : World) (het : EtAt w) (w0 : IsRow .u8 w a0 len0 cap0 z0) :
    Calls Tryz.prog 6 #[.slice a0 len0 cap0] w fun e w' => e = .returned (.bool true) ∧ Below w.heap.size w w' := by
  have HET := Lib.hid het
  clear het
  obtain ⟨bs, hS, hlc⟩ := src_of w0
  clear w0
  by_cases hbig : 1048576 < len0
  · go_enter Tryz.func6, Tryz.ntmps6
    go_wp2
    go_ret
    exact ⟨rfl, Below.refl _ _⟩
  go_enter Tryz.func6, Tryz.ntmps6
  go_wp2_with fail
  refine (drawSgIdeal_any _ _ _ _ _ hS hlc (by omega)).mono ?_
  rintro e W1 ⟨A, B, n, c, m, d, zs, f, rfl, hR, hF, h4, hnc, h7, hf7, hbel⟩
  have H7 : Hid (∀ L ∈ zs, L.length ≤ 1048576) := fun L hL => by have := h7 L hL; omega
  have HLN := Lib.hid hR.len
  clear hS h7
  obtain ⟨X, hXE⟩ : ∃ X, (idlL zs f) = X := ⟨_, rfl⟩
  obtain ⟨ob, hob⟩ : ∃ ob, (swhB zs f) = ob := ⟨_, rfl⟩
  have hi := implIdeal_any A B n c m d zs f W1 hR hF (HET.out.below hbel)
  rw [hXE, hob] at hi
  have HOB := Lib.hid hob
  have HXE := Lib.hid hXE
  have hle := idlL_le zs f
  rw [hXE] at hle
  have HLE := Lib.hid hle
  clear hob hXE hle
  go_wp2_with fail
  refine hi.mono ?_
  rintro e W2 ⟨v, rfl, oX, b⟩
  obtain ⟨Ax, nx, cx, rfl, hnx⟩ := oX.form_
  have hnx4 : nx ≤ 400 := by have := HLE.out.1; omega
  have HNX : Hid (X.length = nx) := hnx.symm
  clear hnx
  have hR2 := hR.below b
  have hF2 := hF.below b
  replace hbel := hbel.trans (b.mono hbel.size)
  clear b hi hR hF
  have hs := specIdeal_any A B n c m d zs f W2 hR2 hF2 (by omega) H7.out
  rw [HXE.out, HOB.out] at hs
  go_wp2_with fail
  refine hs.mono ?_
  rintro e W3 ⟨v, rfl, oW, b⟩
  obtain ⟨Aw, nw, cw, rfl, hnw⟩ := oW.form_
  have hR := hR2.below b
  have hF := hF2.below b
  have hX := rss_oss_ (oX.below b)
  have hW := rss_oss_ oW
  have HXL : Hid (∀ L ∈ X, L.length ≤ 1048576) := HLE.out.2.2
  clear hnw oX oW hR2
  clear hF2
  replace hbel := hbel.trans (b.mono hbel.size)
  clear b hs
  go_wp2_with fail
  refine (sameRows_any Ax Aw nx nw cx cw X X _ hX hW (by omega) HXL.out).mono ?_
  rintro e W4 ⟨rfl, b⟩
  rw [show decide (X = X) = true from decide_eq_true rfl]
  replace hR := hR.below b
  replace hX := hX.below b
  replace hW := hW.below b
  replace hF := hF.below b
  replace hbel := hbel.trans (b.mono hbel.size)
  clear b
  cases ob
  · go_wp2_with fail
    refine (sameRows_any Ax Aw nx nw cx cw X X _ hX hW (by omega) HXL.out).mono ?_
    rintro e W5 ⟨rfl, b⟩
    rw [show decide (X = X) = true from decide_eq_true rfl]
    replace hbel := hbel.trans (b.mono hbel.size)
    go_wp2
    go_ret
    exact ⟨rfl, hbel⟩
  · obtain ⟨hfc, hlaw⟩ := ideal_law HOB.out
    have HFnIdeal : Hid (∀ M ∈ X, isC M = true ∧ popK (doN M) 6 ≤ popK (doN f) 6 ∧ swhB zs M = true ∧ (idlL zs M).length ≤ nx) := fun M hM => by
      rw [← HXE.out] at hM
      have h := hlaw M hM
      rw [HXE.out, HNX.out] at h
      exact h
    have hrk0 := implRank_any B m d f W4 hF
    rw [hfc] at hrk0
    obtain ⟨q, hq⟩ : ∃ q, popK (doN f) 6 = q := ⟨_, rfl⟩
    rw [hq] at hrk0 HFnIdeal
    have hq6 : q ≤ 6 := by rw [← hq]; exact popK_le _ _
    have HX4 := Lib.hid hX
    have HR4 := Lib.hid hR
    clear hfc hlaw hX hW hF hR hq
    go_wp2_with fail
    refine hrk0.mono ?_
    rintro e W5 ⟨rfl, b⟩
    have HX5 := Lib.hid (HX4.out.below b)
    have HR5 := Lib.hid (HR4.out.below b)
    replace hbel := hbel.trans (b.mono hbel.size)
    clear b hrk0 HX4 HR4
    go_wp2
    go_loopw [11] (fun s wr => ∃ k : Nat, k ≤ nx ∧ s = .int .i64 (k : Int) ∧ Below W5.heap.size W5 wr ∧ Below w.heap.size w wr) (fun s _ => nx - (intOf s).toNat)
    case atStart => exact ⟨0, Nat.zero_le _, rfl, Below.refl _ _, hbel⟩
    case round =>
      clear hbel
      obtain ⟨k, hk, rfl, hB5, hbel⟩ := hrel
      by_cases hlt : k < nx
      · have hkl : k < X.length := by have := HNX.out; omega
        obtain ⟨h1, h2, h3, h4'⟩ := HFnIdeal.out _ (ent_mem hkl)
        obtain ⟨ad, Ak, ck, rfl, _, hck, hrk⟩ := (HX5.out.below hB5).at_ hlt
        rw [show X[k]?.getD [] = ent X k from rfl] at hck hrk
        have hR5 := HR5.out.below hB5
        clear hkl
        generalize ent X k = a at *
        have hd := implRank_any Ak a.length ck a wr hrk
        rw [h1] at hd
        generalize popK (doN a) 6 = p at hd h2
        have hpq : decide ((q : Int) < (p : Int)) = false := decide_eq_false (by omega)
        have hpq2 : decide (q < p) = false := decide_eq_false (by omega)
        have hpq3 : ¬ q < p := by omega
        have HSW := Lib.hid h3
        obtain ⟨Y, hY⟩ : ∃ Y, idlL zs a = Y := ⟨_, rfl⟩
        rw [hY] at h4'
        have HY := Lib.hid hY
        have HYL : Hid (Y.length ≤ nx) := h4'
        clear h1 h3 hY h4'
        go_wp2_with fail
        refine hd.mono ?_
        rintro e W6 ⟨rfl, b⟩
        have hid := implIdeal_any A Ak n c a.length ck zs a W6 (hR5.below b) (hrk.below b) (HET.out.below (hbel.trans (b.mono hbel.size)))
        rw [HSW.out, HY.out] at hid
        have hck6 := (b.cell (p := ad.add k) (World.block_lt_of_cell? _ _ hck)).trans hck
        replace hB5 := hB5.trans (b.mono hB5.size)
        replace hbel := hbel.trans (b.mono hbel.size)
        clear b hck hrk hd hR5
        go_wp2_with fail
        refine hid.mono ?_
        rintro e W7 ⟨v, rfl, oY, b⟩
        obtain ⟨Ay, ny, cy, rfl, hny⟩ := oY.form_
        have hnn : decide ((nx : Int) < (ny : Int)) = false := decide_eq_false (by have := HYL.out; omega)
        have hnn2 : decide (nx < ny) = false := decide_eq_false (by have := HYL.out; omega)
        have hnn3 : ¬ nx < ny := by have := HYL.out; omega
        replace hB5 := hB5.trans (b.mono hB5.size)
        replace hbel := hbel.trans (b.mono hbel.size)
        clear b hid hck6 oY hny
        go_wp2
        go_roundw
        case rel => exact ⟨k + 1, by omega, by go_num, hB5, hbel⟩
        case measure => simp [intOf]; omega
      · obtain rfl : k = nx := by omega
        go_wp2
        go_ret
        exact ⟨rfl, hbel⟩

/-! ### THE ROW's STEP -/
theorem et : Tryz.prog.globalNamed "errors.errorType" = some 0 := by kernel_rfl
theorem rt : (Tryz.prog.cutTypes.find? (·.1 == "internal/reflectlite.rtype")).map (·.2) = some 141 := by kernel_rfl
theorem oneRow : ((List.range 201).filter fun t => Tryz.prog.rowNamed t [101, 114, 114, 111, 114]) = [85] := by kernel_rfl
theorem tsize : Tryz.prog.types.size = 201 := by kernel_rfl
abbrev laidL {H : Type} : List (String × DataW H) := [("errors.errorType", Rows.laid_errors_errorType)]
/-- what the condition gives a walk: the variable's one cell -/
theorem handle_of_laid {W : World} (h : laidMetH Tryz.prog laidL W) : EtAt W := by
  have h' : laidMet Tryz.prog [] W ∧ handlesMet Tryz.prog laidL W := h
  obtain ⟨name, u, ty, e1, e2, e3, e4, e5⟩ := h'.2 _ (List.mem_singleton.2 rfl)
  have en : name = [101, 114, 114, 111, 114] := (Option.some.inj e1).symm
  subst en
  obtain rfl := Option.some.inj (rt.symm.trans e2)
  have hm : ty ∈ (List.range 201).filter fun t => Tryz.prog.rowNamed t [101, 114, 114, 111, 114] := List.mem_filter.2 ⟨List.mem_range.2 (by rw [← tsize]; exact e3), e4⟩
  rw [oneRow] at hm
  obtain rfl := List.mem_singleton.1 hm
  have hh : typeHandle Tryz.prog 85 = .pointer (some ⟨1, 85, none⟩) := by kernel_rfl
  rw [hh] at e5
  unfold EtAt
  simpa using World.var?_cell et e5 0
/-- a world that meets the condition -/
noncomputable def laidWorld (os : Os) : World :=
  let w0 := World.holding Tryz.prog os ⟨#[], #[], []⟩
  { w0 with heap := w0.heap.modify 0 fun
      | .cells _ t frozen => .cells #[.iface 141 (.agg #[.pointer (some ⟨1, 85, none⟩)])] t frozen
      | o => o }
theorem laidWorld_met (os : Os) (args : Array Value) : laidMetH Tryz.prog laidL ((laidWorld os).forCall (fun _ _ => 0) ⟨#[], args, []⟩).memory :=
  laidMetH_of_parts (laidMet_nil _ _) (by kernel_rfl)

set_option maxRecDepth 100000 in
theorem lifted (os : Os) (started : os.Started) (H : Type) (enc : TypeId × Value → H) :
    ReturnsInHanded {} Tryz.checked os 6 .any (fun w args => (Rows.fnIdealSpec.pre enc Tryz.prog Tryz.f6 [] false w args ∧ laidMetH Tryz.prog laidL w) ∧ sizedMet enc Tryz.prog Tryz.f6 (OpenSpec.ofChange Rows.fnIdealSpec) false w args) (Rows.fnIdealSpec.post enc Tryz.prog Tryz.f6 false true false false) := by
  refine returnsInHanded_of_change_and (C := Tryz.checked) (X := fun w _ => laidMetH Tryz.prog laidL w) (fun _ _ _ hh h => h.of_heap hh) own started (by kernel_rfl) Tryz.func6
    (ChangeSpec.witness_at (enc := enc) (C := Tryz.checked) (os := os) (X := fun w _ => laidMetH Tryz.prog laidL w) false (laidWorld os) #[.slice none 0 0] 8 rfl (by kernel_rfl) (by kernel_rfl) (by kernel_rfl) (by kernel_rfl) (by kernel_rfl) (laidWorld_met os _)) ?_
  intro W base args ds gs before hval0 hW _ _ hL _
  have hval : ∀ (j : Nat) t v, Tryz.f6.params[j]? = some t → args[j]? = some v → Value.okWide Tryz.prog W .any base t v := hval0
  have hW' := hW
  obtain ⟨p, q, hA0, hV, rfl, hfz, hnd⟩ := hW
  have hA : DataW.TrodAll enc Tryz.prog W 0 (fun _ => true) true Tryz.f6.params.toList args.toList ds p := hA0
  rw [Tryz.params6] at hA hval
  obtain ⟨v0, vs0, d0, ds0, p0, q0, hargs, rfl, rfl, h0, r0⟩ := trodAll_cons hA
  obtain ⟨rfl, rfl, rfl⟩ := trodAll_nil r0
  obtain rfl : args = #[v0] := by cases args; simp_all
  obtain ⟨rfl, rfl⟩ := trodVars_none hV
  obtain ⟨a0, len0, cap0, rfl⟩ := okWide_slice Tryz.underlying22 (hval 0 22 v0 rfl rfl)
  have k0 := h0
  have lt0 : ∀ x ∈ p0, x.block < W.heap.size := by obtain ⟨m, hm⟩ := k0; exact DataW.trod_lt m _ _ _ hm
  obtain ⟨z0, w0⟩ : ∃ zs, IsRow .u8 W a0 len0 cap0 zs := by
    obtain ⟨fuel, hf⟩ := h0
    rcases open_ints Tryz.underlying22 Tryz.underlying5 (by kernel_rfl) hf with ⟨hcs, _⟩ | ⟨x, l, c, zs, hcs, _, hl, hm, hz, _, hcell, hwz⟩
    · simp [Value.cells] at hcs
      obtain ⟨rfl, rfl, rfl⟩ := hcs
      exact ⟨[], .inl ⟨rfl, rfl, rfl, rfl⟩⟩
    · simp [Value.cells] at hcs
      obtain ⟨rfl, rfl, rfl⟩ := hcs
      exact ⟨zs, .inr ⟨_, rfl, hl, hm, by simpa using hz, hcell, hwz⟩⟩
  clear hA0 hval0
  refine (walk a0 len0 cap0 z0 W (handle_of_laid hL) w0).mono fun e W' ⟨he, bel⟩ => ?_
  subst he
  exact ⟨_, rfl, _, _, _, [], _, [], hW', trodAll_mk1 (shut_bool Tryz.underlying4 _), (trodAll_cons_mk (Below.trod laidOut (by kernel_rfl) (of_decide_eq_true (by kernel_rfl)) k0 bel lt0) trodAll_mk0), rfl, bel.frame _, fun h => by cases h⟩

theorem over : Rows.fnIdealRow.holds Tryz.pinned (OpenSpec.ofChange Rows.fnIdealSpec) :=
  OpenClaim.holds_of_wide 6 Tryz.f6 rfl rfl rfl rfl rfl rfl rfl ⟨rfl, rfl, rfl, rfl, rfl⟩ rfl rfl rfl rfl rfl (by kernel_rfl) Tryz.func6 (by kernel_rfl)
    (of_decide_eq_true (by kernel_rfl)) (by unfold Func.isWrapper; first | (rw [if_pos (by decide +kernel)]; kernel_rfl) | (rw [if_neg (by decide +kernel)]; exact ⟨rfl, rfl⟩))
    (fun os started H enc _ => lifted os started H enc)

theorem proved : Rows.FnIdealCardSaid :=
  Claim7.holds_tied_plain_at .later [] [.handle] true _ true
    over (fun _ h => by cases h) (by kernel_rfl) (fun _ h => by cases h) fnIdeal_row_tie rfl ⟨rfl, rfl⟩ (by kernel_rfl) rfl
    (fun f fn hf hfn => by
      obtain rfl : f = 6 := Option.some.inj ((show Tryz.prog.funcNamed Rows.fnIdealRow.func = some 6 by kernel_rfl).symm.trans hf) |>.symm
      obtain rfl : fn = Tryz.f6 := (Option.some.inj (Tryz.func6.symm.trans hfn)).symm
      exact ⟨by kernel_rfl, fun j t ht => by
        rw [Tryz.params6] at ht
        rcases j with _ | j
        · have h0 : t = 22 := by simpa using ht.symm
          subst h0
          exact (show Tryz.prog.wantsStandIn 22 = false by kernel_rfl)
        simp at ht⟩)
    (by kernel_rfl)
#print axioms proved
end Go.Proofs.YtigapanfihpgaaaGreatDoor.fnIdeal
