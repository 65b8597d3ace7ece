/-
  FnGroupCongruence: for every input the law returns true and leaves its arguments as they were. No condition.
-/
import Derived.Test.YtkfiehndlgplgaaGreatDoorRows
import Derived.Test.YtkfiehndlgplgaaGreatDoorCards
import Derived.Test.YtkfiehndlgplgaaGreatDoorTie
import Derived.Test.YtkfiehndlgplgaaGreatDoorPK
import Derived.Test.YtkfiehndlgplgaaGreatDoorMF
import Derived.Test.YtkfiehndlgplgaaGreatDoorQL
import Derived.WalkKit
import Derived.Deep.QuietTactic
import Derived.BigQuiet
import Derived.Outline
import Derived.ProofKit
import Derived.OpenShut
import Derived.ShutString
import Derived.ChangeOld
import Derived.Below
import Derived.ChangeSame
import Derived.ChangeVars
import Derived.JoinedOf
import Derived.RowKit
import Derived.RowKitTokens
import Derived.LaidLaws
import Derived.LaidHandle
import Derived.Stop.Joined
import Derived.SevenTiedAt
namespace Go.Proofs.YtkfiehndlgplgaaGreatDoor.fnGroupCongruence
set_option maxRecDepth 100000
open Go.ChangeShapes Go.WideShapes Go.ChangeAt Go.RowKit
open Go.ChangeMaps (open_string shut_string)
set_option linter.unusedVariables false

theorem own : ownKnob Tryz.prog.godebug = none := by kernel_rfl
theorem laidOut : laidOutB Tryz.prog = true := by kernel_rfl

def IsRow (k : IntKind) (w : World) (a : Option Addr) (len cap : Nat) (zs : List Int) : Prop :=
  (a = none ∧ len = 0 ∧ cap = 0 ∧ zs = []) ∨
  ∃ x, a = some x ∧ len ≤ cap ∧ cap ≤ maxLen ∧ zs.length = cap ∧ (∀ i, i < zs.length → w.cell? (x.add i) = some (.int k (zs.getD i 0))) ∧ ∀ n ∈ zs, (Lit.int k n).wf = true

theorem src_of {w : World} {a : Option Addr} {len cap : Nat} {zs : List Int} (h : IsRow .u8 w a len cap zs) : ∃ bs : Nat → Nat, Src w w.heap.size a len bs ∧ len ≤ cap := by
  rcases h with ⟨rfl, rfl, rfl, rfl⟩ | ⟨x, rfl, hlc, _, hz, hc, hw⟩
  · exact ⟨fun _ => 0, ⟨fun _ => (by decide : (0 : Nat) < 256), fun j hj => absurd hj (by omega)⟩, Nat.le_refl _⟩
  · have hr : ∀ j, 0 ≤ zs.getD j 0 ∧ zs.getD j 0 < 256 := fun j => by
      rcases Nat.lt_or_ge j zs.length with h | h
      · have := hw zs[j] (List.getElem_mem h)
        rw [List.getD_eq_getElem?_getD, List.getElem?_eq_getElem h]
        simp [Lit.wf] at this
        have h0 : IntKind.u8.min = 0 := by decide
        have h1 : IntKind.u8.max = 255 := by decide
        rw [h0, h1] at this
        simp
        omega
      · rw [List.getD_eq_getElem?_getD, List.getElem?_eq_none h]; simp
    refine ⟨fun j => (zs.getD j 0).toNat, ⟨fun j => by have := hr j; show (zs.getD j 0).toNat < 256; omega, fun j hj => ⟨x, rfl, ?_, ?_⟩⟩, hlc⟩
    · have := block_lt_of_cell (hc 0 (by omega)); rwa [block_of_add] at this
    · rw [hc j (by omega), Int.toNat_of_nonneg (hr j).1]

set_option maxHeartbeats 1500000 in
theorem walk (a0 : Option Addr) (len0 cap0 : Nat) (z0 : List Int) (w : World) (het : EtAt w) (w0 : IsRow .u8 w a0 len0 cap0 z0) :
    Calls Tryz.prog 4 #[.slice a0 len0 cap0] w fun e w' => e = .returned (.bool true) ∧ Below w.heap.size w w' := by
  have HET := Lib.hid het
  clear het
  obtain ⟨bs, hS, hlc⟩ := src_of w0
  clear w0
  by_cases hbig : 1048576 < len0
  · go_enter Tryz.func4, Tryz.ntmps4
    go_wp2
    go_ret
    exact ⟨rfl, Below.refl _ _⟩
  go_enter Tryz.func4, Tryz.ntmps4
  go_wp2_with fail
  refine (drawSgGroupCongruence_any _ _ _ _ _ hS hlc (by omega)).mono ?_
  rintro e W1 ⟨A, n, c, zs, rfl, hR, h4, hnc, h7, hbel⟩
  have H7 : Hid (∀ L ∈ zs, L.length ≤ 1048576) := fun L hL => by have := h7 L hL; omega
  have HLN := Lib.hid hR.len
  clear hS h7
  obtain ⟨X, hXE⟩ : ∃ X, (grpL zs) = X := ⟨_, rfl⟩
  obtain ⟨ob, hob⟩ : ∃ ob, (sgS zs) = ob := ⟨_, rfl⟩
  have hi := implCgGroup_any A n c zs W1 hR (HET.out.below hbel)
  rw [hXE, hob] at hi
  have HOB := Lib.hid hob
  have HXE := Lib.hid hXE
  have hle := grpL_len zs
  rw [hXE] at hle
  have HLE := Lib.hid hle
  clear hob hXE hle
  go_wp2_with fail
  refine hi.mono ?_
  rintro e W2 ⟨v, rfl, oX, b⟩
  obtain ⟨Ax, cx, rfl⟩ := own_slice oX
  have hR2 := hR.below b
  replace hbel := hbel.trans (b.mono hbel.size)
  clear b hi hR
  have hs := specCgGroup_any A n c zs W2 hR2 (by omega) H7.out
  rw [HXE.out, HOB.out] at hs
  go_wp2_with fail
  refine hs.mono ?_
  rintro e W3 ⟨v, rfl, oW, b⟩
  obtain ⟨Aw, cw, rfl⟩ := own_slice oW
  have hR := hR2.below b
  have HOWN := Lib.hid (own_below oX b)
  have hX := (RI.of_own oX).below b
  have hW := RI.of_own oW
  have hX6 : X.length ≤ 1048576 := by have := HLE.out; omega
  clear oX oW hR2
  replace hbel := hbel.trans (b.mono hbel.size)
  clear b hs
  go_wp2_with fail
  refine (sameInts_any Ax Aw X.length X.length cx cw X X _ hX hW hX6).mono ?_
  rintro e W4 ⟨rfl, b⟩
  rw [show decide (X = X) = true from decide_eq_true rfl]
  replace hR := hR.below b
  replace hX := hX.below b
  replace hW := hW.below b
  replace hbel := hbel.trans (b.mono hbel.size)
  clear b
  cases ob
  · go_wp2_with fail
    refine (sameInts_any Ax Aw X.length X.length cx cw X X _ hX hW hX6).mono ?_
    rintro e W5 ⟨rfl, b⟩
    rw [show decide (X = X) = true from decide_eq_true rfl]
    replace hbel := hbel.trans (b.mono hbel.size)
    go_wp2
    go_ret
    exact ⟨rfl, hbel⟩
  · have hS := HOB.out
    have hgx := HXE.out
    obtain ⟨z, hz⟩ := gr_one hS
    have hcg := gr_cg hS
    have hlw := gr_law hS
    have hXn : X.length = n := by have := HLN.out; rw [← hgx]; unfold grpL; rw [if_pos hS, nuL_len]; exact this
    have HWX : Hid (∀ x ∈ X, wfI x) := fun x hx => by
      rw [← hgx] at hx
      unfold grpL at hx
      rw [if_pos hS] at hx
      have h1 := nuL_range hx
      have h2 := frC_le (grC zs) zs.length
      have h3 := HLN.out
      exact WalkArith.wf_i64 (by omega)
    rw [hgx] at hz hcg hlw
    have HZ := Lib.hid hz
    have HCG := Lib.hid hcg
    have HLW := Lib.hid hlw
    have HR := Lib.hid (fun (W : World) (hW : Below W4.heap.size W4 W) => And.intro (hR.below hW) (And.intro (hX.below hW) (hbel.trans (hW.mono hbel.size))))
    have HXN := Lib.hid hXn
    have hzn : decide ((z : Int) ≥ 0) = true := decide_eq_true (by omega)
    have hneg : decide ((-1 : Int) ≥ 0) = false := rfl
    have HX400 : Hid (X.length ≤ 1048576) := hX6
    rw [hXn] at HR
    clear hS hgx hz hcg hlw hR hX hW hbel hX6
    go_wp2
    go_loopw [8, 9] (fun f i wr => ∃ k : Nat, k ≤ n ∧ i = .int .i64 (k : Int) ∧ Below W4.heap.size W4 wr ∧ (f = .int .i64 (-1) ∨ f = .int .i64 (z : Int))) (fun _ i _ => n - (intOf i).toNat)
    case atStart => exact ⟨0, Nat.zero_le _, rfl, Below.refl _ _, .inl rfl⟩
    case round =>
      obtain ⟨k, hk, rfl, hB4, hf⟩ := hrel
      by_cases hlt : k < n
      · have hkk : (k : Int) < (n : Int) := by omega
        have hkl : k < zs.length := by have := HLN.out; omega
        obtain ⟨ad, Ak, ck, rfl, hab, hck, hrk⟩ := (HR.out _ hB4).1.at_ hlt
        obtain ⟨ax, rfl, hax, hcx⟩ := (HR.out _ hB4).2.1.at_ hlt
        have hid := implIdem_any Ak _ ck (ent zs k) wr hrk
        rw [show (isC (ent zs k) && idemL (mv (fT (ent zs k)) (fk (ent zs k)))) = idB (ent zs k) from rfl] at hid
        have hent : zs[k]?.getD [] = ent zs k := rfl
        rw [hent] at hck
        cases hi : idB (ent zs k)
        · rw [hi] at hid
          clear hi hcx hrk hent
          go_wp2_with fail
          refine hid.mono ?_
          rintro e w5 ⟨rfl, b⟩
          have hB5 := hB4.trans (b.mono hB4.size)
          clear hid
          go_wp2
          go_roundw
          case rel => exact ⟨k + 1, by omega, by go_num, hB5, hf⟩
          case measure => simp [intOf]; omega
        · have hzk : X[k]?.getD 0 = (z : Int) := HZ.out k hkl hi
          rw [hi] at hid
          rw [hzk] at hcx
          clear hi hrk hent hzk
          go_wp2_with fail
          refine hid.mono ?_
          rintro e w5 ⟨rfl, b⟩
          have hB5 := hB4.trans (b.mono hB4.size)
          have hcx5 := (b.cell (p := ax.add k) (by rw [block_of_add]; exact hax)).trans hcx
          clear hid hcx hck
          rcases hf with rfl | rfl
          · go_wp2
            go_roundw
            case rel => exact ⟨k + 1, by omega, by go_num, hB5, .inr rfl⟩
            case measure => simp [intOf]; omega
          · go_wp2
            go_roundw
            case rel => exact ⟨k + 1, by omega, by go_num, hB5, .inr rfl⟩
            case measure => simp [intOf]; omega
      · obtain rfl : k = n := by omega
        have hkk : ¬ (k : Int) < (k : Int) := by omega
        obtain ⟨hR5, hX5, hb5⟩ := HR.out _ hB4
        have hkn := implKernel_any A Ax k c k cx zs X wr hR5 hX5 HWX.out (HET.out.below hb5)
        rw [HCG.out] at hkn
        have hle := krL_le zs X
        clear hB4 hf
        go_wp2_with fail
        refine hkn.mono ?_
        rintro e w6 ⟨v, rfl, oK, b⟩
        have hR6 := hR5.below b
        have hX6' := hX5.below b
        have hb6 := hb5.trans (b.mono hb5.size)
        obtain ⟨Ak, nk, ck, rfl, hnk⟩ := oK.form_
        have HNK := Lib.hid hnk
        clear hnk
        clear hkn b hR5 hX5 hb5
        have hidm := implIdems_any A k c zs w6 hR6 (HET.out.below hb6)
        rw [HOB.out] at hidm
        go_wp2_with fail
        refine hidm.mono ?_
        rintro e w7 ⟨v, rfl, oI, b⟩
        have hR7 := hR6.below b
        have hX7 := hX6'.below b
        obtain ⟨Ai, ni, ci, rfl, hni⟩ := oI.form_
        clear hni
        have hK7 := rss_oss_ (oK.below b)
        have hI7 := rss_oss_ oI
        have hb7 := hb6.trans (b.mono hb6.size)
        clear hidm b hR6 hX6' hb6 oK oI
        have hin := implCgIn_any A Ax k c k cx zs X w7 hR7 hX7 HWX.out (HET.out.below hb7)
        rw [HCG.out] at hin
        go_wp2_with fail
        refine hin.mono ?_
        rintro e w8 ⟨rfl, b⟩
        have hR8 := hR7.below b
        have hK8 := hK7.below b
        have hI8 := hI7.below b
        have hb8 := hb7.trans (b.mono hb7.size)
        clear hin b hR7 hX7 hK7 hI7 hb7
        obtain ⟨hle1, _, hle3⟩ := hle
        clear HCG HZ HR HXE HOB HLE HWX HXN HX400 HOWN
        generalize krL zs X = KL at *
        generalize idL zs = IL at *
        have hk6 : nk ≤ 1048576 := by have := HNK.out; omega
        clear hle1 HNK
        have hsr := sameRows_any Ak Ai nk ni ck ci KL IL w8 hK8 hI8 hk6 hle3
        go_wp2_with fail
        refine hsr.mono ?_
        rintro e w9 ⟨rfl, b⟩
        rw [HLW.out]
        have hR9 := hR8.below b
        have hb9 := hb8.trans (b.mono hb8.size)
        clear hsr b hR8 hK8 hI8 hb8
        have hun := implUnitary_any A k c zs w9 hR9 (HET.out.below hb9)
        obtain ⟨u, hu⟩ : ∃ u, sgU zs = u := ⟨_, rfl⟩
        rw [hu] at hun ⊢
        go_wp2_with fail
        refine hun.mono ?_
        rintro e w10 ⟨rfl, b⟩
        have hb10 := hb9.trans (b.mono hb9.size)
        clear hun b hR9 hb9 hu
        cases u
        all_goals
          go_wp2
          go_ret
          exact ⟨by try rfl, hb10⟩

/-! ### THE ROW's STEP -/
theorem et : Tryz.prog.globalNamed "errors.errorType" = some 0 := by kernel_rfl
theorem rt : (Tryz.prog.cutTypes.find? (·.1 == "internal/reflectlite.rtype")).map (·.2) = some 172 := by kernel_rfl
theorem oneRow : ((List.range 232).filter fun t => Tryz.prog.rowNamed t [101, 114, 114, 111, 114]) = [110] := by kernel_rfl
theorem tsize : Tryz.prog.types.size = 232 := by kernel_rfl
abbrev laidL {H : Type} : List (String × DataW H) := [("errors.errorType", Rows.laid_errors_errorType)]
/-- what the condition gives a walk: the variable's one cell -/
theorem handle_of_laid {W : World} (h : laidMetH Tryz.prog laidL W) : EtAt W := by
  have h' : laidMet Tryz.prog [] W ∧ handlesMet Tryz.prog laidL W := h
  obtain ⟨name, u, ty, e1, e2, e3, e4, e5⟩ := h'.2 _ (List.mem_singleton.2 rfl)
  have en : name = [101, 114, 114, 111, 114] := (Option.some.inj e1).symm
  subst en
  obtain rfl := Option.some.inj (rt.symm.trans e2)
  have hm : ty ∈ (List.range 232).filter fun t => Tryz.prog.rowNamed t [101, 114, 114, 111, 114] := List.mem_filter.2 ⟨List.mem_range.2 (by rw [← tsize]; exact e3), e4⟩
  rw [oneRow] at hm
  obtain rfl := List.mem_singleton.1 hm
  have hh : typeHandle Tryz.prog 110 = .pointer (some ⟨1, 110, none⟩) := by kernel_rfl
  rw [hh] at e5
  unfold EtAt
  simpa using World.var?_cell et e5 0
/-- a world that meets the condition -/
noncomputable def laidWorld (os : Os) : World :=
  let w0 := World.holding Tryz.prog os ⟨#[], #[], []⟩
  { w0 with heap := w0.heap.modify 0 fun
      | .cells _ t frozen => .cells #[.iface 172 (.agg #[.pointer (some ⟨1, 110, none⟩)])] t frozen
      | o => o }
theorem laidWorld_met (os : Os) (args : Array Value) : laidMetH Tryz.prog laidL ((laidWorld os).forCall (fun _ _ => 0) ⟨#[], args, []⟩).memory :=
  laidMetH_of_parts (laidMet_nil _ _) (by kernel_rfl)

set_option maxRecDepth 100000 in
theorem lifted (os : Os) (started : os.Started) (H : Type) (enc : TypeId × Value → H) :
    ReturnsInHanded {} Tryz.checked os 4 .any (fun w args => (Rows.fnGroupCongruenceSpec.pre enc Tryz.prog Tryz.f4 [] false w args ∧ laidMetH Tryz.prog laidL w) ∧ sizedMet enc Tryz.prog Tryz.f4 (OpenSpec.ofChange Rows.fnGroupCongruenceSpec) false w args) (Rows.fnGroupCongruenceSpec.post enc Tryz.prog Tryz.f4 false true false false) := by
  refine returnsInHanded_of_change_and (C := Tryz.checked) (X := fun w _ => laidMetH Tryz.prog laidL w) (fun _ _ _ hh h => h.of_heap hh) own started (by kernel_rfl) Tryz.func4
    (ChangeSpec.witness_at (enc := enc) (C := Tryz.checked) (os := os) (X := fun w _ => laidMetH Tryz.prog laidL w) false (laidWorld os) #[.slice none 0 0] 8 rfl (by kernel_rfl) (by kernel_rfl) (by kernel_rfl) (by kernel_rfl) (by kernel_rfl) (laidWorld_met os _)) ?_
  intro W base args ds gs before hval0 hW _ _ hL _
  have hval : ∀ (j : Nat) t v, Tryz.f4.params[j]? = some t → args[j]? = some v → Value.okWide Tryz.prog W .any base t v := hval0
  have hW' := hW
  obtain ⟨p, q, hA0, hV, rfl, hfz, hnd⟩ := hW
  have hA : DataW.TrodAll enc Tryz.prog W 0 (fun _ => true) true Tryz.f4.params.toList args.toList ds p := hA0
  rw [Tryz.params4] at hA hval
  obtain ⟨v0, vs0, d0, ds0, p0, qq0, hargs, rfl, rfl, h0, r0⟩ := trodAll_cons hA
  obtain ⟨rfl, rfl, rfl⟩ := trodAll_nil r0
  obtain rfl : args = #[v0] := by cases args; simp_all
  obtain ⟨rfl, rfl⟩ := trodVars_none hV
  obtain ⟨a0, len0, cap0, rfl⟩ := okWide_slice Tryz.underlying22 (hval 0 22 v0 rfl rfl)
  have k0 := h0
  have lt0 : ∀ x ∈ p0, x.block < W.heap.size := by obtain ⟨m, hm⟩ := k0; exact DataW.trod_lt m _ _ _ hm
  obtain ⟨z0, w0⟩ : ∃ zs, IsRow .u8 W a0 len0 cap0 zs := by
    obtain ⟨fuel, hf⟩ := h0
    rcases open_ints Tryz.underlying22 Tryz.underlying5 (by kernel_rfl) hf with ⟨hcs, _⟩ | ⟨x, l, c, zs, hcs, _, hl, hm, hz, _, hcell, hwz⟩
    · simp [Value.cells] at hcs
      obtain ⟨rfl, rfl, rfl⟩ := hcs
      exact ⟨[], .inl ⟨rfl, rfl, rfl, rfl⟩⟩
    · simp [Value.cells] at hcs
      obtain ⟨rfl, rfl, rfl⟩ := hcs
      exact ⟨zs, .inr ⟨_, rfl, hl, hm, by simpa using hz, hcell, hwz⟩⟩
  clear hA0 hval0
  refine (walk a0 len0 cap0 z0 W (handle_of_laid hL) w0).mono fun e W' ⟨he, bel⟩ => ?_
  subst he
  exact ⟨_, rfl, _, _, _, [], _, [], hW', trodAll_mk1 (shut_bool Tryz.underlying4 _), (trodAll_cons_mk (Below.trod laidOut (by kernel_rfl) (of_decide_eq_true (by kernel_rfl)) k0 bel lt0) trodAll_mk0), rfl, bel.frame _, fun h => by cases h⟩

theorem over : Rows.fnGroupCongruenceRow.holds Tryz.pinned (OpenSpec.ofChange Rows.fnGroupCongruenceSpec) :=
  OpenClaim.holds_of_wide 4 Tryz.f4 rfl rfl rfl rfl rfl rfl rfl ⟨rfl, rfl, rfl, rfl, rfl⟩ rfl rfl rfl rfl rfl (by kernel_rfl) Tryz.func4 (by kernel_rfl)
    (of_decide_eq_true (by kernel_rfl)) (by unfold Func.isWrapper; first | (rw [if_pos (by decide +kernel)]; kernel_rfl) | (rw [if_neg (by decide +kernel)]; exact ⟨rfl, rfl⟩))
    (fun os started H enc _ => lifted os started H enc)

theorem proved : Rows.FnGroupCongruenceCardSaid :=
  Claim7.holds_tied_plain_at .later [] [.handle] true _ true
    over (fun _ h => by cases h) (by kernel_rfl) (fun _ h => by cases h) fnGroupCongruence_row_tie rfl ⟨rfl, rfl⟩ (by kernel_rfl) rfl
    (fun f fn hf hfn => by
      obtain rfl : f = 4 := Option.some.inj ((show Tryz.prog.funcNamed Rows.fnGroupCongruenceRow.func = some 4 by kernel_rfl).symm.trans hf) |>.symm
      obtain rfl : fn = Tryz.f4 := (Option.some.inj (Tryz.func4.symm.trans hfn)).symm
      exact ⟨by kernel_rfl, fun j t ht => by
        rw [Tryz.params4] at ht
        rcases j with _ | j
        · have h0 : t = 22 := by simpa using ht.symm
          subst h0
          exact (show Tryz.prog.wantsStandIn 22 = false by kernel_rfl)
        simp at ht⟩)
    (by kernel_rfl)
#print axioms proved
end Go.Proofs.YtkfiehndlgplgaaGreatDoor.fnGroupCongruence
