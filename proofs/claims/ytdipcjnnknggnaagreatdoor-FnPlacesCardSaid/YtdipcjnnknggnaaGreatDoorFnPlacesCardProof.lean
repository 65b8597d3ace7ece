/-
  FnPlaces: for every input the law returns true and leaves its arguments as they were. No condition.
-/
import Derived.Test.YtdipcjnnknggnaaGreatDoorRows
import Derived.Test.YtdipcjnnknggnaaGreatDoorCards
import Derived.Test.YtdipcjnnknggnaaGreatDoorTie
import Derived.Test.YtdipcjnnknggnaaGreatDoorPK
import Derived.Test.YtdipcjnnknggnaaGreatDoorMF
import Derived.Test.YtdipcjnnknggnaaGreatDoorPT
import Derived.WalkKit
import Derived.Deep.QuietTactic
import Derived.BigQuiet
import Derived.Outline
import Derived.ProofKit
import Derived.OpenShut
import Derived.ShutString
import Derived.ChangeOld
import Derived.Below
import Derived.ChangeSame
import Derived.ChangeVars
import Derived.JoinedOf
import Derived.RowKit
import Derived.RowKitTokens
import Derived.LaidLaws
import Derived.LaidHandle
import Derived.Stop.Joined
import Derived.SevenTiedAt
namespace Go.Proofs.YtdipcjnnknggnaaGreatDoor.fnPlaces
set_option maxRecDepth 100000
open Go.ChangeShapes Go.WideShapes Go.ChangeAt Go.RowKit
open Go.ChangeMaps (open_string shut_string)
set_option linter.unusedVariables false

theorem own : ownKnob Tryz.prog.godebug = none := by kernel_rfl
theorem laidOut : laidOutB Tryz.prog = true := by kernel_rfl

def IsRow (k : IntKind) (w : World) (a : Option Addr) (len cap : Nat) (zs : List Int) : Prop :=
  (a = none ∧ len = 0 ∧ cap = 0 ∧ zs = []) ∨
  ∃ x, a = some x ∧ len ≤ cap ∧ cap ≤ maxLen ∧ zs.length = cap ∧ (∀ i, i < zs.length → w.cell? (x.add i) = some (.int k (zs.getD i 0))) ∧ ∀ n ∈ zs, (Lit.int k n).wf = true

theorem src_of {w : World} {a : Option Addr} {len cap : Nat} {zs : List Int} (h : IsRow .u8 w a len cap zs) : ∃ bs : Nat → Nat, Src w w.heap.size a len bs ∧ len ≤ cap := by
  rcases h with ⟨rfl, rfl, rfl, rfl⟩ | ⟨x, rfl, hlc, _, hz, hc, hw⟩
  · exact ⟨fun _ => 0, ⟨fun _ => (by decide : (0 : Nat) < 256), fun j hj => absurd hj (by omega)⟩, Nat.le_refl _⟩
  · have hr : ∀ j, 0 ≤ zs.getD j 0 ∧ zs.getD j 0 < 256 := fun j => by
      rcases Nat.lt_or_ge j zs.length with h | h
      · have := hw zs[j] (List.getElem_mem h)
        rw [List.getD_eq_getElem?_getD, List.getElem?_eq_getElem h]
        simp [Lit.wf] at this
        have h0 : IntKind.u8.min = 0 := by decide
        have h1 : IntKind.u8.max = 255 := by decide
        rw [h0, h1] at this
        simp
        omega
      · rw [List.getD_eq_getElem?_getD, List.getElem?_eq_none h]; simp
    refine ⟨fun j => (zs.getD j 0).toNat, ⟨fun j => by have := hr j; show (zs.getD j 0).toNat < 256; omega, fun j hj => ⟨x, rfl, ?_, ?_⟩⟩, hlc⟩
    · have := block_lt_of_cell (hc 0 (by omega)); rwa [block_of_add] at this
    · rw [hc j (by omega), Int.toNat_of_nonneg (hr j).1]

set_option maxHeartbeats 4000000 in
theorem walk (a0 : Option Addr) (len0 cap0 : Nat) (z0 : List Int) (w : World) (het : EtAt w) (w0 : IsRow .u8 w a0 len0 cap0 z0) :
    Calls Tryz.prog 8 #[.slice a0 len0 cap0] w fun e w' => e = .returned (.bool true) ∧ Below w.heap.size w w' := by
  have HET := Lib.hid het
  clear het
  obtain ⟨bs, hS, hlc⟩ := src_of w0
  clear w0
  by_cases hbig : 1048576 < len0
  · go_enter Tryz.func8, Tryz.ntmps8
    go_wp2
    go_ret
    exact ⟨rfl, Below.refl _ _⟩
  go_enter Tryz.func8, Tryz.ntmps8
  go_wp2_with fail
  refine (drawSgPlaces_any _ _ _ _ _ hS hlc (by omega)).mono ?_
  rintro e W1 ⟨A, n, c, zs, p, rfl, hR, h4, hnc, h7, hbel⟩
  have H7 : Hid (∀ L ∈ zs, L.length ≤ 1048576) := fun L hL => by have := h7 L hL; omega
  have HLN := Lib.hid hR.len
  clear hS h7
  obtain ⟨X, hXE⟩ : ∃ X, (plcI zs p) = X := ⟨_, rfl⟩
  obtain ⟨ob, hob⟩ : ∃ ob, (atOK zs p) = ob := ⟨_, rfl⟩
  have hi := implPlc_any A n c zs p W1 hR (HET.out.below hbel)
  rw [hXE, hob] at hi
  have HOB := Lib.hid hob
  have HXE := Lib.hid hXE
  have hle := plcI_len zs p
  rw [hXE] at hle
  have HLE := Lib.hid hle
  clear hob hXE hle
  go_wp2_with fail
  refine hi.mono ?_
  rintro e W2 ⟨v, rfl, oX, b⟩
  obtain ⟨Ax, cx, rfl⟩ := own_slice oX
  have hR2 := hR.below b
  replace hbel := hbel.trans (b.mono hbel.size)
  clear b hi hR
  have hs := specPlc_any A n c zs p W2 hR2 (by omega) H7.out
  rw [HXE.out, HOB.out] at hs
  go_wp2_with fail
  refine hs.mono ?_
  rintro e W3 ⟨v, rfl, oW, b⟩
  obtain ⟨Aw, cw, rfl⟩ := own_slice oW
  have hR := hR2.below b
  have HOWN := Lib.hid (own_below oX b)
  have hX := (RI.of_own oX).below b
  have hW := RI.of_own oW
  have hX6 : X.length ≤ 1048576 := by have := HLE.out; omega
  clear oX oW hR2
  replace hbel := hbel.trans (b.mono hbel.size)
  clear b hs
  go_wp2_with fail
  refine (sameInts_any Ax Aw X.length X.length cx cw X X _ hX hW hX6).mono ?_
  rintro e W4 ⟨rfl, b⟩
  rw [show decide (X = X) = true from decide_eq_true rfl]
  replace hR := hR.below b
  replace hX := hX.below b
  replace hW := hW.below b
  replace hbel := hbel.trans (b.mono hbel.size)
  clear b
  cases ob
  · go_wp2_with fail
    refine (sameInts_any Ax Aw X.length X.length cx cw X X _ hX hW hX6).mono ?_
    rintro e W5 ⟨rfl, b⟩
    rw [show decide (X = X) = true from decide_eq_true rfl]
    replace hbel := hbel.trans (b.mono hbel.size)
    go_wp2
    go_ret
    exact ⟨rfl, hbel⟩
  · have hlaw := plc_law HOB.out
    rw [HXE.out] at hlaw
    have HQ : Hid (∀ q ∈ X, atOK zs q = true ∧ plcI zs q = X) := hlaw.1
    have HP : Hid (X ≠ [] → p ∈ X) := hlaw.2
    have HR4 := Lib.hid hR
    have HX4 := Lib.hid hX
    have HX6 := Lib.hid hX6
    have hX4 : X.length ≤ 400 := HLE.out
    clear hlaw hW hR hX hX6
    by_cases h0 : X.length = 0
    · have hq0 : ((X.length : Int) == 0) = true := by simp [h0]
      go_wp2
      go_loopw [9, 10] (fun r i wr => r = .bool true ∧ i = .int .i64 0 ∧ Below w.heap.size w wr) (fun _ i _ => 0 - (intOf i).toNat)
      case atStart => exact ⟨rfl, rfl, hbel⟩
      case round =>
        clear hbel
        obtain ⟨rfl, rfl, hbel⟩ := hrel
        have hl0 : ¬ (0 : Int) < (X.length : Int) := by omega
        go_wp2
        go_ret
        exact ⟨rfl, hbel⟩
    · have hq0 : ((X.length : Int) == 0) = false := by simp [h0]
      have HNE : Hid (p ∈ X) := HP.out (fun e => h0 (by rw [e]; rfl))
      clear h0
      go_wp2
      go_loopw [9, 10] (fun r i wr => ∃ k : Nat, k ≤ X.length ∧ r = .bool ((X.take k).any (fun x => decide (x = p))) ∧ i = .int .i64 (k : Int) ∧ Below W4.heap.size W4 wr ∧ Below w.heap.size w wr) (fun _ i _ => X.length - (intOf i).toNat)
      case atStart => exact ⟨0, Nat.zero_le _, rfl, rfl, Below.refl _ _, hbel⟩
      case round =>
        clear hbel
        obtain ⟨k, hk, rfl, rfl, hB4, hbel⟩ := hrel
        by_cases hlt : k < X.length
        · obtain ⟨ad, rfl, hab, hc1⟩ := (HX4.out.below hB4).at_ hlt
          have hgk : X[k]?.getD 0 = X[k] := by rw [List.getElem?_eq_getElem hlt]; rfl
          have hqa := HQ.out X[k] (List.getElem_mem hlt)
          have HST : Hid ((X.take (k + 1)).any (fun x => decide (x = p)) = ((X.take k).any (fun x => decide (x = p)) || decide (X[k] = p))) := by show _ = _; rw [List.take_succ_eq_append_getElem hlt, List.any_append]; simp
          rw [hgk] at hc1
          have hki : (k : Int) < (X.length : Int) := by omega
          have hpl := implPlc_any A n c zs X[k] wr (HR4.out.below hB4) (HET.out.below hbel)
          rw [hqa.1, hqa.2] at hpl
          clear hgk hqa
          generalize X[k] = a at *
          have hab1 : (ad.add k).block < wr.heap.size := by rw [block_of_add]; exact hab
          go_wp2_with fail
          refine hpl.mono ?_
          rintro e W5 ⟨v5, rfl, oY, b⟩
          obtain ⟨A5, c5, rfl⟩ := own_slice oY
          have hY := RI.of_own oY
          have hB5 := hB4.trans (b.mono hB4.size)
          have hbel5 := hbel.trans (b.mono hbel.size)
          have hc5 : W5.cell? (ad.add k) = some (.int .i64 a) := (b.cell hab1).trans hc1
          have hab5 : (ad.add k).block < W5.heap.size := by have := b.size; omega
          clear oY b hpl hB4 hbel hc1 hab hab1
          go_wp2_with fail
          refine (sameInts_any A5 (some ad) X.length X.length c5 _ X X _ hY (HX4.out.below hB5) HX6.out).mono ?_
          rintro e W6 ⟨rfl, b⟩
          rw [show decide (X = X) = true from decide_eq_true rfl]
          have hB6 := hB5.trans (b.mono hB5.size)
          have hbel6 := hbel5.trans (b.mono hbel5.size)
          have hc6 : W6.cell? (ad.add k) = some (.int .i64 a) := (b.cell hab5).trans hc5
          clear b hB5 hbel5 hc5 hab5 hY
          cases hr0 : (X.take k).any (fun x => decide (x = p))
          · by_cases hap : a = p
            · have HK : Hid ((X.take (k + 1)).any (fun x => decide (x = p)) = true) := by show _ = _; rw [HST.out, hr0, decide_eq_true hap]; rfl
              have hcmp : (a == p) = true := by simp [hap]
              clear hr0 hap
              go_wp2
              go_roundw
              case rel => exact ⟨k + 1, by omega, by rw [HK.out], by go_num, hB6, hbel6⟩
              case measure => simp [intOf]; omega
            · have HK : Hid ((X.take (k + 1)).any (fun x => decide (x = p)) = false) := by show _ = _; rw [HST.out, hr0, decide_eq_false hap]; rfl
              have hcmp : (a == p) = false := by simp [hap]
              clear hr0 hap
              go_wp2
              go_roundw
              case rel => exact ⟨k + 1, by omega, by rw [HK.out], by go_num, hB6, hbel6⟩
              case measure => simp [intOf]; omega
          · have HK : Hid ((X.take (k + 1)).any (fun x => decide (x = p)) = true) := by show _ = _; rw [HST.out, hr0]; rfl
            clear hr0
            go_wp2
            go_roundw
            case rel => exact ⟨k + 1, by omega, by rw [HK.out], by go_num, hB6, hbel6⟩
            case measure => simp [intOf]; omega
        · obtain rfl : k = X.length := by omega
          have HE : Hid ((X.take X.length).any (fun x => decide (x = p)) = true) := by show _ = _; rw [List.take_of_length_le (Nat.le_refl _), List.any_eq_true]; exact ⟨p, HNE.out, decide_eq_true rfl⟩
          rw [HE.out]
          go_wp2
          go_ret
          exact ⟨rfl, hbel⟩

/-! ### THE ROW's STEP -/
theorem et : Tryz.prog.globalNamed "errors.errorType" = some 0 := by kernel_rfl
theorem rt : (Tryz.prog.cutTypes.find? (·.1 == "internal/reflectlite.rtype")).map (·.2) = some 192 := by kernel_rfl
theorem oneRow : ((List.range 251).filter fun t => Tryz.prog.rowNamed t [101, 114, 114, 111, 114]) = [99] := by kernel_rfl
theorem tsize : Tryz.prog.types.size = 251 := by kernel_rfl
abbrev laidL {H : Type} : List (String × DataW H) := [("errors.errorType", Rows.laid_errors_errorType)]
/-- what the condition gives a walk: the variable's one cell -/
theorem handle_of_laid {W : World} (h : laidMetH Tryz.prog laidL W) : EtAt W := by
  have h' : laidMet Tryz.prog [] W ∧ handlesMet Tryz.prog laidL W := h
  obtain ⟨name, u, ty, e1, e2, e3, e4, e5⟩ := h'.2 _ (List.mem_singleton.2 rfl)
  have en : name = [101, 114, 114, 111, 114] := (Option.some.inj e1).symm
  subst en
  obtain rfl := Option.some.inj (rt.symm.trans e2)
  have hm : ty ∈ (List.range 251).filter fun t => Tryz.prog.rowNamed t [101, 114, 114, 111, 114] := List.mem_filter.2 ⟨List.mem_range.2 (by rw [← tsize]; exact e3), e4⟩
  rw [oneRow] at hm
  obtain rfl := List.mem_singleton.1 hm
  have hh : typeHandle Tryz.prog 99 = .pointer (some ⟨1, 99, none⟩) := by kernel_rfl
  rw [hh] at e5
  unfold EtAt
  simpa using World.var?_cell et e5 0
/-- a world that meets the condition -/
noncomputable def laidWorld (os : Os) : World :=
  let w0 := World.holding Tryz.prog os ⟨#[], #[], []⟩
  { w0 with heap := w0.heap.modify 0 fun
      | .cells _ t frozen => .cells #[.iface 192 (.agg #[.pointer (some ⟨1, 99, none⟩)])] t frozen
      | o => o }
theorem laidWorld_met (os : Os) (args : Array Value) : laidMetH Tryz.prog laidL ((laidWorld os).forCall (fun _ _ => 0) ⟨#[], args, []⟩).memory :=
  laidMetH_of_parts (laidMet_nil _ _) (by kernel_rfl)

set_option maxRecDepth 100000 in
theorem lifted (os : Os) (started : os.Started) (H : Type) (enc : TypeId × Value → H) :
    ReturnsInHanded {} Tryz.checked os 8 .any (fun w args => (Rows.fnPlacesSpec.pre enc Tryz.prog Tryz.f8 [] false w args ∧ laidMetH Tryz.prog laidL w) ∧ sizedMet enc Tryz.prog Tryz.f8 (OpenSpec.ofChange Rows.fnPlacesSpec) false w args) (Rows.fnPlacesSpec.post enc Tryz.prog Tryz.f8 false true false false) := by
  refine returnsInHanded_of_change_and (C := Tryz.checked) (X := fun w _ => laidMetH Tryz.prog laidL w) (fun _ _ _ hh h => h.of_heap hh) own started (by kernel_rfl) Tryz.func8
    (ChangeSpec.witness_at (enc := enc) (C := Tryz.checked) (os := os) (X := fun w _ => laidMetH Tryz.prog laidL w) false (laidWorld os) #[.slice none 0 0] 8 rfl (by kernel_rfl) (by kernel_rfl) (by kernel_rfl) (by kernel_rfl) (by kernel_rfl) (laidWorld_met os _)) ?_
  intro W base args ds gs before hval0 hW _ _ hL _
  have hval : ∀ (j : Nat) t v, Tryz.f8.params[j]? = some t → args[j]? = some v → Value.okWide Tryz.prog W .any base t v := hval0
  have hW' := hW
  obtain ⟨p, q, hA0, hV, rfl, hfz, hnd⟩ := hW
  have hA : DataW.TrodAll enc Tryz.prog W 0 (fun _ => true) true Tryz.f8.params.toList args.toList ds p := hA0
  rw [Tryz.params8] at hA hval
  obtain ⟨v0, vs0, d0, ds0, p0, qq0, hargs, rfl, rfl, h0, r0⟩ := trodAll_cons hA
  obtain ⟨rfl, rfl, rfl⟩ := trodAll_nil r0
  obtain rfl : args = #[v0] := by cases args; simp_all
  obtain ⟨rfl, rfl⟩ := trodVars_none hV
  obtain ⟨a0, len0, cap0, rfl⟩ := okWide_slice Tryz.underlying22 (hval 0 22 v0 rfl rfl)
  have k0 := h0
  have lt0 : ∀ x ∈ p0, x.block < W.heap.size := by obtain ⟨m, hm⟩ := k0; exact DataW.trod_lt m _ _ _ hm
  obtain ⟨z0, w0⟩ : ∃ zs, IsRow .u8 W a0 len0 cap0 zs := by
    obtain ⟨fuel, hf⟩ := h0
    rcases open_ints Tryz.underlying22 Tryz.underlying5 (by kernel_rfl) hf with ⟨hcs, _⟩ | ⟨x, l, c, zs, hcs, _, hl, hm, hz, _, hcell, hwz⟩
    · simp [Value.cells] at hcs
      obtain ⟨rfl, rfl, rfl⟩ := hcs
      exact ⟨[], .inl ⟨rfl, rfl, rfl, rfl⟩⟩
    · simp [Value.cells] at hcs
      obtain ⟨rfl, rfl, rfl⟩ := hcs
      exact ⟨zs, .inr ⟨_, rfl, hl, hm, by simpa using hz, hcell, hwz⟩⟩
  clear hA0 hval0
  refine (walk a0 len0 cap0 z0 W (handle_of_laid hL) w0).mono fun e W' ⟨he, bel⟩ => ?_
  subst he
  exact ⟨_, rfl, _, _, _, [], _, [], hW', trodAll_mk1 (shut_bool Tryz.underlying4 _), (trodAll_cons_mk (Below.trod laidOut (by kernel_rfl) (of_decide_eq_true (by kernel_rfl)) k0 bel lt0) trodAll_mk0), rfl, bel.frame _, fun h => by cases h⟩

theorem over : Rows.fnPlacesRow.holds Tryz.pinned (OpenSpec.ofChange Rows.fnPlacesSpec) :=
  OpenClaim.holds_of_wide_leaving 8 Tryz.f8 rfl rfl rfl rfl rfl rfl rfl ⟨rfl, rfl, rfl, rfl, rfl⟩ rfl rfl rfl rfl rfl (by kernel_rfl) Tryz.func8 (by kernel_rfl)
    (of_decide_eq_true (by kernel_rfl)) (by unfold Func.isWrapper; first | (rw [if_pos (by decide +kernel)]; kernel_rfl) | (rw [if_neg (by decide +kernel)]; exact ⟨rfl, rfl⟩))
    (fun os started H enc _ => leaving_of_handed (lifted os started H enc))

theorem proved : Rows.FnPlacesCardSaid :=
  tied_goes .later [] [.handle] true _ true
    over (fun _ h => by cases h) (by kernel_rfl) (fun _ h => by cases h) fnPlaces_row_tie rfl ⟨rfl, rfl⟩ (by kernel_rfl) rfl
    (fun f fn hf hfn => by
      obtain rfl : f = 8 := Option.some.inj ((show Tryz.prog.funcNamed Rows.fnPlacesRow.func = some 8 by kernel_rfl).symm.trans hf) |>.symm
      obtain rfl : fn = Tryz.f8 := (Option.some.inj (Tryz.func8.symm.trans hfn)).symm
      exact ⟨by kernel_rfl, fun j t ht => by
        rw [Tryz.params8] at ht
        rcases j with _ | j
        · have h0 : t = 22 := by simpa using ht.symm
          subst h0
          exact (show Tryz.prog.wantsStandIn 22 = false by kernel_rfl)
        simp at ht⟩)
    (by kernel_rfl)
#print axioms proved
end Go.Proofs.YtdipcjnnknggnaaGreatDoor.fnPlaces
