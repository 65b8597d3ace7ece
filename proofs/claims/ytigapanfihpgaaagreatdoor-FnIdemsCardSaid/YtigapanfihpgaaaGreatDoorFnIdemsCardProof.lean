/-
  FnIdems: for every input the law returns true and leaves its arguments as they were. No condition.
-/
import Derived.Test.YtigapanfihpgaaaGreatDoorRows
import Derived.Test.YtigapanfihpgaaaGreatDoorCards
import Derived.Test.YtigapanfihpgaaaGreatDoorTie
import Derived.Test.YtigapanfihpgaaaGreatDoorMF
import Derived.Test.YtigapanfihpgaaaGreatDoorOV
import Derived.Test.YtigapanfihpgaaaGreatDoorNV
import Derived.Test.YtigapanfihpgaaaGreatDoorOX
import Derived.WalkKit
import Derived.Deep.QuietTactic
import Derived.BigQuiet
import Derived.Outline
import Derived.ProofKit
import Derived.OpenShut
import Derived.ShutString
import Derived.ChangeOld
import Derived.Below
import Derived.ChangeSame
import Derived.ChangeVars
import Derived.JoinedOf
import Derived.RowKit
import Derived.RowKitTokens
import Derived.LaidLaws
import Derived.LaidHandle
import Derived.Stop.Joined
import Derived.SevenTiedAt
namespace Go.Proofs.YtigapanfihpgaaaGreatDoor.fnIdems
set_option maxRecDepth 100000
open Go.ChangeShapes Go.WideShapes Go.ChangeAt Go.RowKit
open Go.ChangeMaps (open_string shut_string)
set_option linter.unusedVariables false

theorem own : ownKnob Tryz.prog.godebug = none := by kernel_rfl
theorem laidOut : laidOutB Tryz.prog = true := by kernel_rfl

def IsRow (k : IntKind) (w : World) (a : Option Addr) (len cap : Nat) (zs : List Int) : Prop :=
  (a = none ∧ len = 0 ∧ cap = 0 ∧ zs = []) ∨
  ∃ x, a = some x ∧ len ≤ cap ∧ cap ≤ maxLen ∧ zs.length = cap ∧ (∀ i, i < zs.length → w.cell? (x.add i) = some (.int k (zs.getD i 0))) ∧ ∀ n ∈ zs, (Lit.int k n).wf = true

theorem src_of {w : World} {a : Option Addr} {len cap : Nat} {zs : List Int} (h : IsRow .u8 w a len cap zs) : ∃ bs : Nat → Nat, Src w w.heap.size a len bs ∧ len ≤ cap := by
  rcases h with ⟨rfl, rfl, rfl, rfl⟩ | ⟨x, rfl, hlc, _, hz, hc, hw⟩
  · exact ⟨fun _ => 0, ⟨fun _ => (by decide : (0 : Nat) < 256), fun j hj => absurd hj (by omega)⟩, Nat.le_refl _⟩
  · have hr : ∀ j, 0 ≤ zs.getD j 0 ∧ zs.getD j 0 < 256 := fun j => by
      rcases Nat.lt_or_ge j zs.length with h | h
      · have := hw zs[j] (List.getElem_mem h)
        rw [List.getD_eq_getElem?_getD, List.getElem?_eq_getElem h]
        simp [Lit.wf] at this
        have h0 : IntKind.u8.min = 0 := by decide
        have h1 : IntKind.u8.max = 255 := by decide
        rw [h0, h1] at this
        simp
        omega
      · rw [List.getD_eq_getElem?_getD, List.getElem?_eq_none h]; simp
    refine ⟨fun j => (zs.getD j 0).toNat, ⟨fun j => by have := hr j; show (zs.getD j 0).toNat < 256; omega, fun j hj => ⟨x, rfl, ?_, ?_⟩⟩, hlc⟩
    · have := block_lt_of_cell (hc 0 (by omega)); rwa [block_of_add] at this
    · rw [hc j (by omega), Int.toNat_of_nonneg (hr j).1]

set_option maxHeartbeats 4000000 in
theorem walk (a0 : Option Addr) (len0 cap0 : Nat) (z0 : List Int) (w : World) (het : EtAt w) (w0 : IsRow .u8 w a0 len0 cap0 z0) :
    Calls Tryz.prog 3 #[.slice a0 len0 cap0] w fun e w' => e = .returned (.bool true) ∧ Below w.heap.size w w' := by
  have HET := Lib.hid het
  clear het
  obtain ⟨bs, hS, hlc⟩ := src_of w0
  clear w0
  by_cases hbig : 1048576 < len0
  · go_enter Tryz.func3, Tryz.ntmps3
    go_wp2
    go_ret
    exact ⟨rfl, Below.refl _ _⟩
  go_enter Tryz.func3, Tryz.ntmps3
  go_wp2_with fail
  refine (drawSgIdems_any _ _ _ _ _ hS hlc (by omega)).mono ?_
  rintro e W1 ⟨A, n, c, zs, rfl, hR, h4, hnc, h7, hbel⟩
  have H7 : Hid (∀ L ∈ zs, L.length ≤ 1048576) := fun L hL => by have := h7 L hL; omega
  have HLN := Lib.hid hR.len
  clear hS h7
  obtain ⟨X, hXE⟩ : ∃ X, (idL zs) = X := ⟨_, rfl⟩
  obtain ⟨ob, hob⟩ : ∃ ob, (sgS zs) = ob := ⟨_, rfl⟩
  have hi := implIdems_any A n c zs W1 hR (HET.out.below hbel)
  rw [hXE, hob] at hi
  have HOB := Lib.hid hob
  have HXE := Lib.hid hXE
  have hle := idL_le zs
  rw [hXE] at hle
  have HLE := Lib.hid hle
  clear hob hXE hle
  go_wp2_with fail
  refine hi.mono ?_
  rintro e W2 ⟨v, rfl, oX, b⟩
  obtain ⟨Ax, nx, cx, rfl, hnx⟩ := oX.form_
  have hnx4 : nx ≤ 400 := by have := HLE.out.1; omega
  have HNX : Hid (X.length = nx) := hnx.symm
  clear hnx
  have hR2 := hR.below b
  replace hbel := hbel.trans (b.mono hbel.size)
  clear b hi hR
  have hs := specIdems_any A n c zs W2 hR2 (by omega) H7.out
  rw [HXE.out, HOB.out] at hs
  go_wp2_with fail
  refine hs.mono ?_
  rintro e W3 ⟨v, rfl, oW, b⟩
  obtain ⟨Aw, nw, cw, rfl, hnw⟩ := oW.form_
  have hR := hR2.below b
  have hX := rss_oss_ (oX.below b)
  have hW := rss_oss_ oW
  have HXL : Hid (∀ L ∈ X, L.length ≤ 1048576) := HLE.out.2.2
  clear hnw oX oW hR2
  replace hbel := hbel.trans (b.mono hbel.size)
  clear b hs
  go_wp2_with fail
  refine (sameRows_any Ax Aw nx nw cx cw X X _ hX hW (by omega) HXL.out).mono ?_
  rintro e W4 ⟨rfl, b⟩
  rw [show decide (X = X) = true from decide_eq_true rfl]
  replace hR := hR.below b
  replace hX := hX.below b
  replace hW := hW.below b
  replace hbel := hbel.trans (b.mono hbel.size)
  clear b
  cases ob
  · go_wp2_with fail
    refine (sameRows_any Ax Aw nx nw cx cw X X _ hX hW (by omega) HXL.out).mono ?_
    rintro e W5 ⟨rfl, b⟩
    rw [show decide (X = X) = true from decide_eq_true rfl]
    replace hbel := hbel.trans (b.mono hbel.size)
    go_wp2
    go_ret
    exact ⟨rfl, hbel⟩
  · have S := sgS_iff.1 HOB.out
    have HIX : Hid (X = zs.filter idB) := by show _ = _; rw [← HXE.out]; unfold idL; rw [HOB.out]; rfl
    have HFnIdems : Hid (∀ e ∈ X, ∀ f ∈ X, isP e f = true ∧ isP f e = true ∧ tiL e f = tiL f e ∧ tiL e f = meL e f) := fun e he f hf => by
      rw [HIX.out] at he hf
      obtain ⟨he1, he2⟩ := List.mem_filter.1 he
      obtain ⟨hf1, hf2⟩ := List.mem_filter.1 hf
      have hp := sg_isP S he1 hf1
      obtain ⟨a, b, c⟩ := idems_law hp he2 hf2
      exact ⟨hp, a, b, c⟩
    have HPOS : Hid (0 < nx) := by
      have h0 := ent_mem (zs := zs) S.one
      have : tiL (ent zs 0) (tuL (ent zs 0)) ∈ X := by
        rw [HIX.out]
        exact List.mem_filter.2 ⟨S.ti _ h0 _ (S.tu _ h0), (chart_law (S.ch _ h0).1).2.2.2⟩
      have := List.length_pos_of_mem this
      have := HNX.out
      show 0 < nx
      omega
    have HX4 := Lib.hid hX
    clear S hX hW hR
    go_wp2
    go_loopw [8] (fun s wr => ∃ i : Nat, i ≤ nx ∧ s = .int .i64 (i : Int) ∧ Below W4.heap.size W4 wr ∧ Below w.heap.size w wr) (fun s _ => nx - (intOf s).toNat)
    case atStart => exact ⟨0, Nat.zero_le _, rfl, Below.refl _ _, hbel⟩
    case round =>
      clear hbel
      obtain ⟨i, hi, rfl, hB4, hbel⟩ := hrel
      by_cases hlt : i < nx
      · have hil : i < X.length := by have := HNX.out; omega
        have HMI := Lib.hid (ent_mem hil)
        clear hil
        go_wp2
        go_loopw [9] (fun s wp => ∃ k : Nat, k ≤ i ∧ s = .int .i64 (k : Int) ∧ Below W4.heap.size W4 wp ∧ Below w.heap.size w wp) (fun s _ => i - (intOf s).toNat)
        case atStart => exact ⟨0, Nat.zero_le _, rfl, hB4, hbel⟩
        case round =>
          clear hB4 hbel
          obtain ⟨k, hk, rfl, hB4, hbel⟩ := hrel
          by_cases hki : k < i
          · have hkl : k < X.length := by have := HNX.out; omega
            obtain ⟨h1, h2, h3, h4'⟩ := HFnIdems.out _ HMI.out _ (ent_mem hkl)
            have HLW : Hid (isP (ent X i) (ent X k) = true ∧ isP (ent X k) (ent X i) = true) := ⟨h1, h2⟩
            obtain ⟨t, ht⟩ : ∃ t, tiL (ent X i) (ent X k) = t := ⟨_, rfl⟩
            have HT1 := Lib.hid ht
            have HT2 : Hid (tiL (ent X k) (ent X i) = t) := h3.symm.trans ht
            have HT3 : Hid (meL (ent X i) (ent X k) = t) := h4'.symm.trans ht
            have HTL : Hid (t.length ≤ 1048576) := by
              show t.length ≤ 1048576
              have := tiL_le (ent X i) (ent X k)
              rw [ht] at this; omega
            obtain ⟨ad, Ai, ci, rfl, _, hci, hri⟩ := (HX4.out.below hB4).at_ hlt
            obtain ⟨ad2, Ak, ck, he, _, hck, hrk⟩ := (HX4.out.below hB4).at_ (k := k) (by omega)
            obtain rfl := Option.some.inj he
            rw [show X[i]?.getD [] = ent X i from rfl] at hci hri
            rw [show X[k]?.getD [] = ent X k from rfl] at hck hrk
            have hkn : (k : Int) < (nx : Int) := by omega
            have hkn2 : k < nx := by omega
            clear h1 h2 h3 h4' ht he hkl
            generalize ent X i = e at *
            generalize ent X k = f at *
            go_wp2_with fail
            have tok1 : True := trivial
            have hS := Below.refl wr.heap.size wr
            go_region_held3 (fun w' => w'.cell? (ad.add i) = some (.slice Ai e.length ci) ∧ w'.cell? (ad.add k) = some (.slice Ak f.length ck))
              (first | exact ⟨by assumption, by assumption⟩ | go_keep)
              (first
                | (go_at_call 16
                   have _t := tok1
                   with_reducible refine (implTimes_any Ai Ak e.length f.length ci ck e f _ ?_ ?_).mono ?_
                   · exact hri.heap rfl
                   · exact hrk.heap rfl
                   rintro x V1 ⟨v, rfl, hN, b⟩
                   rw [HLW.out.1]
                   rw [HT1.out] at hN
                   obtain ⟨A1, c1, rfl⟩ := own_slice hN
                   have hci := cell_keepO b hci rfl
                   have hck := cell_keepO b hck rfl
                   have hS := bel_keep b hS rfl rfl rfl rfl hS.size
                   clear tok1 _t b))
            have hr1 := RI.of_own hN
            replace hri := hri.below hS
            replace hrk := hrk.below hS
            replace hB4 := hB4.trans (hS.mono hB4.size)
            replace hbel := hbel.trans (hS.mono hbel.size)
            clear hS hN
            go_wp2_with fail
            have tok2 : True := trivial
            have hS := Below.refl V1.heap.size V1
            go_region_held3 (fun w' => w'.cell? (ad.add i) = some (.slice Ai e.length ci) ∧ w'.cell? (ad.add k) = some (.slice Ak f.length ck))
              (first | exact ⟨by assumption, by assumption⟩ | go_keep)
              (first
                | (go_at_call 16
                   have _t := tok2
                   with_reducible refine (implTimes_any Ak Ai f.length e.length ck ci f e _ ?_ ?_).mono ?_
                   · exact hrk.heap rfl
                   · exact hri.heap rfl
                   rintro x V2 ⟨v, rfl, hN, b⟩
                   rw [HLW.out.2]
                   rw [HT2.out] at hN
                   obtain ⟨A2, c2, rfl⟩ := own_slice hN
                   have hci := cell_keepO b hci rfl
                   have hck := cell_keepO b hck rfl
                   have hS := bel_keep b hS rfl rfl rfl rfl hS.size
                   clear tok2 _t b))
            have hr2 := RI.of_own hN
            replace hri := hri.below hS
            replace hrk := hrk.below hS
            replace hr1 := hr1.below hS
            replace hB4 := hB4.trans (hS.mono hB4.size)
            replace hbel := hbel.trans (hS.mono hbel.size)
            clear hS hN
            go_wp2_with fail
            have tok3 : True := trivial
            have hS := Below.refl V2.heap.size V2
            go_region_held3 (fun w' => w'.cell? (ad.add i) = some (.slice Ai e.length ci) ∧ w'.cell? (ad.add k) = some (.slice Ak f.length ck))
              (first | exact ⟨by assumption, by assumption⟩ | go_keep)
              (first
                | (go_at_call 17
                   have _t := tok3
                   with_reducible refine (implMeet_any Ai Ak e.length f.length ci ck e f _ ?_ ?_).mono ?_
                   · exact hri.heap rfl
                   · exact hrk.heap rfl
                   rintro x V3 ⟨v, rfl, hN, b⟩
                   rw [HLW.out.1]
                   rw [HT3.out] at hN
                   obtain ⟨A3, c3, rfl⟩ := own_slice hN
                   have hci := cell_keepO b hci rfl
                   have hck := cell_keepO b hck rfl
                   have hS := bel_keep b hS rfl rfl rfl rfl hS.size
                   clear tok3 _t b))
            have hr3 := RI.of_own hN
            replace hri := hri.below hS
            replace hrk := hrk.below hS
            replace hr1 := hr1.below hS
            replace hr2 := hr2.below hS
            replace hB4 := hB4.trans (hS.mono hB4.size)
            replace hbel := hbel.trans (hS.mono hbel.size)
            clear hS hN
            clear hci hck hri hrk
            go_wp2_with fail
            refine (sameInts_any A1 A2 t.length t.length c1 c2 t t _ hr1 hr2 HTL.out).mono ?_
            rintro x V4 ⟨rfl, b⟩
            rw [show decide (t = t) = true from decide_eq_true rfl]
            replace hr1 := hr1.below b
            replace hr3 := hr3.below b
            replace hB4 := hB4.trans (b.mono hB4.size)
            replace hbel := hbel.trans (b.mono hbel.size)
            clear b hr2
            go_wp2_with fail
            refine (sameInts_any A1 A3 t.length t.length c1 c3 t t _ hr1 hr3 HTL.out).mono ?_
            rintro x V5 ⟨rfl, b⟩
            rw [show decide (t = t) = true from decide_eq_true rfl]
            replace hB4 := hB4.trans (b.mono hB4.size)
            replace hbel := hbel.trans (b.mono hbel.size)
            clear b hr1 hr3
            go_wp2
            go_roundw
            case rel => exact ⟨k + 1, by omega, by go_num, hB4, hbel⟩
            case measure => simp [intOf]; omega
          · obtain rfl : k = i := by omega
            go_wp2
            go_roundw
            case rel => exact ⟨k + 1, by omega, by go_num, hB4, hbel⟩
            case measure => simp [intOf]; omega
      · obtain rfl : i = nx := by omega
        have hpos : decide ((0 : Int) < (i : Int)) = true := decide_eq_true (by have := HPOS.out; omega)
        have hpos2 : decide (0 < i) = true := decide_eq_true HPOS.out
        go_wp2
        go_ret
        exact ⟨rfl, hbel⟩

/-! ### THE ROW's STEP -/
theorem et : Tryz.prog.globalNamed "errors.errorType" = some 0 := by kernel_rfl
theorem rt : (Tryz.prog.cutTypes.find? (·.1 == "internal/reflectlite.rtype")).map (·.2) = some 141 := by kernel_rfl
theorem oneRow : ((List.range 201).filter fun t => Tryz.prog.rowNamed t [101, 114, 114, 111, 114]) = [85] := by kernel_rfl
theorem tsize : Tryz.prog.types.size = 201 := by kernel_rfl
abbrev laidL {H : Type} : List (String × DataW H) := [("errors.errorType", Rows.laid_errors_errorType)]
/-- what the condition gives a walk: the variable's one cell -/
theorem handle_of_laid {W : World} (h : laidMetH Tryz.prog laidL W) : EtAt W := by
  have h' : laidMet Tryz.prog [] W ∧ handlesMet Tryz.prog laidL W := h
  obtain ⟨name, u, ty, e1, e2, e3, e4, e5⟩ := h'.2 _ (List.mem_singleton.2 rfl)
  have en : name = [101, 114, 114, 111, 114] := (Option.some.inj e1).symm
  subst en
  obtain rfl := Option.some.inj (rt.symm.trans e2)
  have hm : ty ∈ (List.range 201).filter fun t => Tryz.prog.rowNamed t [101, 114, 114, 111, 114] := List.mem_filter.2 ⟨List.mem_range.2 (by rw [← tsize]; exact e3), e4⟩
  rw [oneRow] at hm
  obtain rfl := List.mem_singleton.1 hm
  have hh : typeHandle Tryz.prog 85 = .pointer (some ⟨1, 85, none⟩) := by kernel_rfl
  rw [hh] at e5
  unfold EtAt
  simpa using World.var?_cell et e5 0
/-- a world that meets the condition -/
noncomputable def laidWorld (os : Os) : World :=
  let w0 := World.holding Tryz.prog os ⟨#[], #[], []⟩
  { w0 with heap := w0.heap.modify 0 fun
      | .cells _ t frozen => .cells #[.iface 141 (.agg #[.pointer (some ⟨1, 85, none⟩)])] t frozen
      | o => o }
theorem laidWorld_met (os : Os) (args : Array Value) : laidMetH Tryz.prog laidL ((laidWorld os).forCall (fun _ _ => 0) ⟨#[], args, []⟩).memory :=
  laidMetH_of_parts (laidMet_nil _ _) (by kernel_rfl)

set_option maxRecDepth 100000 in
theorem lifted (os : Os) (started : os.Started) (H : Type) (enc : TypeId × Value → H) :
    ReturnsInHanded {} Tryz.checked os 3 .any (fun w args => (Rows.fnIdemsSpec.pre enc Tryz.prog Tryz.f3 [] false w args ∧ laidMetH Tryz.prog laidL w) ∧ sizedMet enc Tryz.prog Tryz.f3 (OpenSpec.ofChange Rows.fnIdemsSpec) false w args) (Rows.fnIdemsSpec.post enc Tryz.prog Tryz.f3 false true false false) := by
  refine returnsInHanded_of_change_and (C := Tryz.checked) (X := fun w _ => laidMetH Tryz.prog laidL w) (fun _ _ _ hh h => h.of_heap hh) own started (by kernel_rfl) Tryz.func3
    (ChangeSpec.witness_at (enc := enc) (C := Tryz.checked) (os := os) (X := fun w _ => laidMetH Tryz.prog laidL w) false (laidWorld os) #[.slice none 0 0] 8 rfl (by kernel_rfl) (by kernel_rfl) (by kernel_rfl) (by kernel_rfl) (by kernel_rfl) (laidWorld_met os _)) ?_
  intro W base args ds gs before hval0 hW _ _ hL _
  have hval : ∀ (j : Nat) t v, Tryz.f3.params[j]? = some t → args[j]? = some v → Value.okWide Tryz.prog W .any base t v := hval0
  have hW' := hW
  obtain ⟨p, q, hA0, hV, rfl, hfz, hnd⟩ := hW
  have hA : DataW.TrodAll enc Tryz.prog W 0 (fun _ => true) true Tryz.f3.params.toList args.toList ds p := hA0
  rw [Tryz.params3] at hA hval
  obtain ⟨v0, vs0, d0, ds0, p0, q0, hargs, rfl, rfl, h0, r0⟩ := trodAll_cons hA
  obtain ⟨rfl, rfl, rfl⟩ := trodAll_nil r0
  obtain rfl : args = #[v0] := by cases args; simp_all
  obtain ⟨rfl, rfl⟩ := trodVars_none hV
  obtain ⟨a0, len0, cap0, rfl⟩ := okWide_slice Tryz.underlying22 (hval 0 22 v0 rfl rfl)
  have k0 := h0
  have lt0 : ∀ x ∈ p0, x.block < W.heap.size := by obtain ⟨m, hm⟩ := k0; exact DataW.trod_lt m _ _ _ hm
  obtain ⟨z0, w0⟩ : ∃ zs, IsRow .u8 W a0 len0 cap0 zs := by
    obtain ⟨fuel, hf⟩ := h0
    rcases open_ints Tryz.underlying22 Tryz.underlying5 (by kernel_rfl) hf with ⟨hcs, _⟩ | ⟨x, l, c, zs, hcs, _, hl, hm, hz, _, hcell, hwz⟩
    · simp [Value.cells] at hcs
      obtain ⟨rfl, rfl, rfl⟩ := hcs
      exact ⟨[], .inl ⟨rfl, rfl, rfl, rfl⟩⟩
    · simp [Value.cells] at hcs
      obtain ⟨rfl, rfl, rfl⟩ := hcs
      exact ⟨zs, .inr ⟨_, rfl, hl, hm, by simpa using hz, hcell, hwz⟩⟩
  clear hA0 hval0
  refine (walk a0 len0 cap0 z0 W (handle_of_laid hL) w0).mono fun e W' ⟨he, bel⟩ => ?_
  subst he
  exact ⟨_, rfl, _, _, _, [], _, [], hW', trodAll_mk1 (shut_bool Tryz.underlying4 _), (trodAll_cons_mk (Below.trod laidOut (by kernel_rfl) (of_decide_eq_true (by kernel_rfl)) k0 bel lt0) trodAll_mk0), rfl, bel.frame _, fun h => by cases h⟩

theorem over : Rows.fnIdemsRow.holds Tryz.pinned (OpenSpec.ofChange Rows.fnIdemsSpec) :=
  OpenClaim.holds_of_wide 3 Tryz.f3 rfl rfl rfl rfl rfl rfl rfl ⟨rfl, rfl, rfl, rfl, rfl⟩ rfl rfl rfl rfl rfl (by kernel_rfl) Tryz.func3 (by kernel_rfl)
    (of_decide_eq_true (by kernel_rfl)) (by unfold Func.isWrapper; first | (rw [if_pos (by decide +kernel)]; kernel_rfl) | (rw [if_neg (by decide +kernel)]; exact ⟨rfl, rfl⟩))
    (fun os started H enc _ => lifted os started H enc)

theorem proved : Rows.FnIdemsCardSaid :=
  Claim7.holds_tied_plain_at .later [] [.handle] true _ true
    over (fun _ h => by cases h) (by kernel_rfl) (fun _ h => by cases h) fnIdems_row_tie rfl ⟨rfl, rfl⟩ (by kernel_rfl) rfl
    (fun f fn hf hfn => by
      obtain rfl : f = 3 := Option.some.inj ((show Tryz.prog.funcNamed Rows.fnIdemsRow.func = some 3 by kernel_rfl).symm.trans hf) |>.symm
      obtain rfl : fn = Tryz.f3 := (Option.some.inj (Tryz.func3.symm.trans hfn)).symm
      exact ⟨by kernel_rfl, fun j t ht => by
        rw [Tryz.params3] at ht
        rcases j with _ | j
        · have h0 : t = 22 := by simpa using ht.symm
          subst h0
          exact (show Tryz.prog.wantsStandIn 22 = false by kernel_rfl)
        simp at ht⟩)
    (by kernel_rfl)
#print axioms proved
end Go.Proofs.YtigapanfihpgaaaGreatDoor.fnIdems
