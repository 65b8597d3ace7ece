/-
  FnSemigroup: for every input the law returns true and leaves its arguments as they were. No condition.
-/
import Derived.Test.YtlnbglaminaojaaDoorRows
import Derived.Test.YtlnbglaminaojaaDoorCards
import Derived.Test.YtlnbglaminaojaaDoorTie
import Derived.Test.YtlnbglaminaojaaDoorMF
import Derived.Test.YtlnbglaminaojaaDoorOT
import Derived.Test.YtlnbglaminaojaaDoorOU
import Derived.Test.YtlnbglaminaojaaDoorOL
import Derived.WalkKit
import Derived.Deep.QuietTactic
import Derived.BigQuiet
import Derived.Outline
import Derived.ProofKit
import Derived.OpenShut
import Derived.ShutString
import Derived.ChangeOld
import Derived.Below
import Derived.ChangeSame
import Derived.ChangeVars
import Derived.JoinedOf
import Derived.RowKit
import Derived.RowKitTokens
import Derived.LaidLaws
import Derived.LaidHandle
import Derived.Stop.Joined
import Derived.SevenTiedAt
namespace Go.Proofs.YtlnbglaminaojaaDoor.fnSemigroup
set_option maxRecDepth 100000
open Go.ChangeShapes Go.WideShapes Go.ChangeAt Go.RowKit
open Go.ChangeMaps (open_string shut_string)
set_option linter.unusedVariables false

theorem own : ownKnob Tryd.prog.godebug = none := by kernel_rfl
theorem laidOut : laidOutB Tryd.prog = true := by kernel_rfl

def IsRow (k : IntKind) (w : World) (a : Option Addr) (len cap : Nat) (zs : List Int) : Prop :=
  (a = none ∧ len = 0 ∧ cap = 0 ∧ zs = []) ∨
  ∃ x, a = some x ∧ len ≤ cap ∧ cap ≤ maxLen ∧ zs.length = cap ∧ (∀ i, i < zs.length → w.cell? (x.add i) = some (.int k (zs.getD i 0))) ∧ ∀ n ∈ zs, (Lit.int k n).wf = true

theorem src_of {w : World} {a : Option Addr} {len cap : Nat} {zs : List Int} (h : IsRow .u8 w a len cap zs) : ∃ bs : Nat → Nat, Src w w.heap.size a len bs ∧ len ≤ cap := by
  rcases h with ⟨rfl, rfl, rfl, rfl⟩ | ⟨x, rfl, hlc, _, hz, hc, hw⟩
  · exact ⟨fun _ => 0, ⟨fun _ => (by decide : (0 : Nat) < 256), fun j hj => absurd hj (by omega)⟩, Nat.le_refl _⟩
  · have hr : ∀ j, 0 ≤ zs.getD j 0 ∧ zs.getD j 0 < 256 := fun j => by
      rcases Nat.lt_or_ge j zs.length with h | h
      · have := hw zs[j] (List.getElem_mem h)
        rw [List.getD_eq_getElem?_getD, List.getElem?_eq_getElem h]
        simp [Lit.wf] at this
        have h0 : IntKind.u8.min = 0 := by decide
        have h1 : IntKind.u8.max = 255 := by decide
        rw [h0, h1] at this
        simp
        omega
      · rw [List.getD_eq_getElem?_getD, List.getElem?_eq_none h]; simp
    refine ⟨fun j => (zs.getD j 0).toNat, ⟨fun j => by have := hr j; show (zs.getD j 0).toNat < 256; omega, fun j hj => ⟨x, rfl, ?_, ?_⟩⟩, hlc⟩
    · have := block_lt_of_cell (hc 0 (by omega)); rwa [block_of_add] at this
    · rw [hc j (by omega), Int.toNat_of_nonneg (hr j).1]

set_option maxHeartbeats 4000000 in
theorem walk (a0 : Option Addr) (len0 cap0 : Nat) (z0 : List Int) (w : World) (het : EtAt w) (w0 : IsRow .u8 w a0 len0 cap0 z0) :
    Calls Tryd.prog 3 #[.slice a0 len0 cap0] w fun e w' => e = .returned (.bool true) ∧ Below w.heap.size w w' := by
  have HET := Lib.hid het
  clear het
  obtain ⟨bs, hS, hlc⟩ := src_of w0
  clear w0
  by_cases hbig : 1048576 < len0
  · go_enter Tryd.func3, Tryd.ntmps3
    go_wp2
    go_ret
    exact ⟨rfl, Below.refl _ _⟩
  go_enter Tryd.func3, Tryd.ntmps3
  go_wp2_with fail
  refine (drawSgIn_any _ _ _ _ _ hS hlc (by omega)).mono ?_
  rintro e W1 ⟨A, n, c, zs, rfl, hR, h4, hnc, h7, hbel⟩
  have H7 : Hid (∀ L ∈ zs, L.length ≤ 1048576) := fun L hL => by have := h7 L hL; omega
  have HLN := Lib.hid hR.len
  clear hS h7
  go_wp2_with fail
  refine (implSgIn_any A n c zs _ hR (HET.out.below hbel)).mono ?_
  rintro e W2 ⟨rfl, b⟩
  have hR2 := hR.below b
  replace hbel := hbel.trans (b.mono hbel.size)
  clear b hR
  go_wp2_with fail
  refine (specSg_any A n c zs _ hR2 (by omega) H7.out).mono ?_
  rintro e W3 ⟨rfl, b⟩
  have hR := hR2.below b
  replace hbel := hbel.trans (b.mono hbel.size)
  clear b hR2
  cases hSg : sgS zs
  · go_wp2
    go_ret
    exact ⟨rfl, hbel⟩
  · have HSG := Lib.hid hSg
    have S := sgS_iff.1 hSg
    have hn1 : 1 ≤ n := by have := S.one; have := HLN.out; omega
    obtain ⟨q, hq⟩ : ∃ q, q + 1 = n := ⟨n - 1, by omega⟩
    obtain ⟨ad, Ap, cp, rfl, hab, hcp, hrp⟩ := hR.at_ (k := q) (by omega)
    obtain ⟨ad', A0, c0, he, _, hc0, hr0⟩ := hR.at_ (k := 0) (by omega)
    obtain rfl := Option.some.inj he
    have hql : q < zs.length := by have := HLN.out; omega
    have h0l : 0 < zs.length := by omega
    have hm1 := ent_mem hql
    have hm0 := ent_mem h0l
    have HM : Hid (tiL (ent zs q) (ent zs 0) ∈ zs) := S.ti _ hm1 _ hm0
    have HP : Hid (isP (ent zs q) (ent zs 0) = true) := isP_of (S.ch _ hm1).1 (S.ch _ hm0).1 ((S.ch _ hm1).2.trans (S.ch _ hm0).2.symm)
    rw [show zs[q]?.getD [] = ent zs q from rfl] at hcp hrp
    rw [show zs[0]?.getD [] = ent zs 0 from rfl, add_zero_] at hc0
    rw [show zs[0]?.getD [] = ent zs 0 from rfl] at hr0
    have hqp : (n : Int) - 1 = (q : Int) := by omega
    have hq2 : (q : Int) < (n : Int) := by omega
    have hq6 : q ≤ 1048576 := by omega
    have hw1 := (wrap_small hq6).1
    have hw2 := (wrap_small hq6).2
    have h0n : (0 : Int) < (n : Int) := by omega
    have h0m : 0 < n := by omega
    have HRR := Lib.hid hR
    clear hSg S he hm1 hm0 hql h0l hab hR hq
    generalize ent zs q = Lp at *
    generalize ent zs 0 = L0 at *
    go_wp2_with fail
    have tok1 : True := trivial
    have hS := Below.refl W3.heap.size W3
    go_region_held3 (fun w' => w'.cell? (ad.add q) = some (.slice Ap Lp.length cp) ∧ w'.cell? ad = some (.slice A0 L0.length c0))
      (first | exact ⟨by assumption, by assumption⟩ | go_keep)
      (first
        | (go_at_call 9
           have _t := tok1
           with_reducible refine (implTimes_any Ap A0 Lp.length L0.length cp c0 Lp L0 _ ?_ ?_).mono ?_
           · exact hrp.heap rfl
           · exact hr0.heap rfl
           rintro e W4 ⟨v, rfl, hN, b⟩
           rw [HP.out]
           obtain ⟨Aa, ca, rfl⟩ := own_slice hN
           have hcp := cell_keepO b hcp rfl
           have hc0 := cell_keepO b hc0 rfl
           have hS := bel_keep b hS rfl rfl rfl rfl hS.size
           clear tok1 _t b))
    have HA := Lib.hid (RI.of_own hN)
    have HR4 := Lib.hid (HRR.out.below hS)
    replace hbel := hbel.trans (hS.mono hbel.size)
    clear hS hN hw1 hw2 hcp hc0 hrp hr0 HRR
    generalize tiL Lp L0 = a at *
    go_wp2
    go_loopw [9, 10] (fun h i wr => ∃ k : Nat, k ≤ n ∧ i = .int .i64 (k : Int) ∧ h = .bool (anyK zs a k) ∧ Below W4.heap.size W4 wr ∧ Below w.heap.size w wr) (fun _ i _ => n - (intOf i).toNat)
    case atStart => exact ⟨0, Nat.zero_le _, rfl, rfl, Below.refl _ _, hbel⟩
    case round =>
      clear hbel
      obtain ⟨k, hk, rfl, rfl, hB4, hbel⟩ := hrel
      by_cases hlt : k < n
      · have hkl : k < zs.length := by have := HLN.out; omega
        have HT := Lib.hid (anyK_succ (a := a) hkl)
        cases hak : anyK zs a k
        · obtain ⟨ad2, Ak, ck, he, _, hck, hrk⟩ := (HR4.out.below hB4).at_ hlt
          obtain rfl := Option.some.inj he
          rw [show zs[k]?.getD [] = ent zs k from rfl] at hck hrk
          have HTF : Hid (anyK zs a (k + 1) = decide (ent zs k = a)) := by show _ = _; rw [HT.out, hak]; rfl
          have hLk := H7.out _ (ent_mem hkl)
          have hAk := HA.out.below hB4
          clear he hak hkl
          generalize ent zs k = L at *
          go_wp2_with fail
          refine (sameInts_any Ak Aa L.length a.length ck ca L a _ hrk hAk hLk).mono ?_
          rintro e W5 ⟨rfl, b⟩
          replace hB4 := hB4.trans (b.mono hB4.size)
          replace hbel := hbel.trans (b.mono hbel.size)
          clear b hck hrk hAk hLk
          go_wp2
          go_roundw
          case rel => exact ⟨k + 1, by omega, by go_num, by rw [HTF.out], hB4, hbel⟩
          case measure => simp [intOf]; omega
        · have HTF : Hid (anyK zs a (k + 1) = true) := by show _ = _; rw [HT.out, hak]; rfl
          clear hak hkl
          go_wp2
          go_roundw
          case rel => exact ⟨k + 1, by omega, by go_num, by rw [HTF.out], hB4, hbel⟩
          case measure => simp [intOf]; omega
      · obtain rfl : k = n := by omega
        rw [anyK_all (by rw [HLN.out]; exact Nat.le_refl _) HM.out]
        have hRk := HR4.out.below hB4
        by_cases h6 : 6 < k
        · have hd : decide ((6 : Int) < (k : Int)) = true := decide_eq_true (by omega)
          go_wp2
          go_ret
          exact ⟨rfl, hbel⟩
        · have hd : decide ((6 : Int) < (k : Int)) = false := decide_eq_false (by omega)
          obtain ⟨OL, OB, hO⟩ := ofs_ex zs
          obtain ⟨hO1, hO2⟩ := sg_ofs HSG.out (by rw [HLN.out]; omega) hO
          have hcall := implOf_any (some ad) k c zs OL OB hO wr hRk (HET.out.below hbel)
          rw [hO1, hO2] at hcall
          clear hO hO1 hO2
          go_wp2_with fail
          refine hcall.mono ?_
          rintro e W6 ⟨v, rfl, oX, b⟩
          obtain ⟨Ax, nx, cx, rfl, hnx⟩ := oX.form_
          have hnx6 : nx ≤ 1048576 := by have := HLN.out; omega
          have hRb := hRk.below b
          replace hbel := hbel.trans (b.mono hbel.size)
          clear b hcall hnx
          go_wp2_with fail
          refine (sameRows_any Ax (some ad) nx k cx c zs zs _ (rss_oss_ oX) hRb hnx6 H7.out).mono ?_
          rintro e W7 ⟨rfl, b⟩
          rw [show decide (zs = zs) = true from decide_eq_true rfl]
          replace hbel := hbel.trans (b.mono hbel.size)
          go_wp2
          go_ret
          exact ⟨rfl, hbel⟩

/-! ### THE ROW's STEP -/
theorem et : Tryd.prog.globalNamed "errors.errorType" = some 0 := by kernel_rfl
theorem rt : (Tryd.prog.cutTypes.find? (·.1 == "internal/reflectlite.rtype")).map (·.2) = some 114 := by kernel_rfl
theorem oneRow : ((List.range 182).filter fun t => Tryd.prog.rowNamed t [101, 114, 114, 111, 114]) = [54] := by kernel_rfl
theorem tsize : Tryd.prog.types.size = 182 := by kernel_rfl
abbrev laidL {H : Type} : List (String × DataW H) := [("errors.errorType", Rows.laid_errors_errorType)]
/-- what the condition gives a walk: the variable's one cell -/
theorem handle_of_laid {W : World} (h : laidMetH Tryd.prog laidL W) : EtAt W := by
  have h' : laidMet Tryd.prog [] W ∧ handlesMet Tryd.prog laidL W := h
  obtain ⟨name, u, ty, e1, e2, e3, e4, e5⟩ := h'.2 _ (List.mem_singleton.2 rfl)
  have en : name = [101, 114, 114, 111, 114] := (Option.some.inj e1).symm
  subst en
  obtain rfl := Option.some.inj (rt.symm.trans e2)
  have hm : ty ∈ (List.range 182).filter fun t => Tryd.prog.rowNamed t [101, 114, 114, 111, 114] := List.mem_filter.2 ⟨List.mem_range.2 (by rw [← tsize]; exact e3), e4⟩
  rw [oneRow] at hm
  obtain rfl := List.mem_singleton.1 hm
  have hh : typeHandle Tryd.prog 54 = .pointer (some ⟨1, 54, none⟩) := by kernel_rfl
  rw [hh] at e5
  unfold EtAt
  simpa using World.var?_cell et e5 0
/-- a world that meets the condition -/
noncomputable def laidWorld (os : Os) : World :=
  let w0 := World.holding Tryd.prog os ⟨#[], #[], []⟩
  { w0 with heap := w0.heap.modify 0 fun
      | .cells _ t frozen => .cells #[.iface 114 (.agg #[.pointer (some ⟨1, 54, none⟩)])] t frozen
      | o => o }
theorem laidWorld_met (os : Os) (args : Array Value) : laidMetH Tryd.prog laidL ((laidWorld os).forCall (fun _ _ => 0) ⟨#[], args, []⟩).memory :=
  laidMetH_of_parts (laidMet_nil _ _) (by kernel_rfl)

set_option maxRecDepth 100000 in
theorem lifted (os : Os) (started : os.Started) (H : Type) (enc : TypeId × Value → H) :
    ReturnsInHanded {} Tryd.checked os 3 .any (fun w args => (Rows.fnSemigroupSpec.pre enc Tryd.prog Tryd.f3 [] false w args ∧ laidMetH Tryd.prog laidL w) ∧ sizedMet enc Tryd.prog Tryd.f3 (OpenSpec.ofChange Rows.fnSemigroupSpec) false w args) (Rows.fnSemigroupSpec.post enc Tryd.prog Tryd.f3 false true false false) := by
  refine returnsInHanded_of_change_and (C := Tryd.checked) (X := fun w _ => laidMetH Tryd.prog laidL w) (fun _ _ _ hh h => h.of_heap hh) own started (by kernel_rfl) Tryd.func3
    (ChangeSpec.witness_at (enc := enc) (C := Tryd.checked) (os := os) (X := fun w _ => laidMetH Tryd.prog laidL w) false (laidWorld os) #[.slice none 0 0] 8 rfl (by kernel_rfl) (by kernel_rfl) (by kernel_rfl) (by kernel_rfl) (by kernel_rfl) (laidWorld_met os _)) ?_
  intro W base args ds gs before hval0 hW _ _ hL _
  have hval : ∀ (j : Nat) t v, Tryd.f3.params[j]? = some t → args[j]? = some v → Value.okWide Tryd.prog W .any base t v := hval0
  have hW' := hW
  obtain ⟨p, q, hA0, hV, rfl, hfz, hnd⟩ := hW
  have hA : DataW.TrodAll enc Tryd.prog W 0 (fun _ => true) true Tryd.f3.params.toList args.toList ds p := hA0
  rw [Tryd.params3] at hA hval
  obtain ⟨v0, vs0, d0, ds0, p0, q0, hargs, rfl, rfl, h0, r0⟩ := trodAll_cons hA
  obtain ⟨rfl, rfl, rfl⟩ := trodAll_nil r0
  obtain rfl : args = #[v0] := by cases args; simp_all
  obtain ⟨rfl, rfl⟩ := trodVars_none hV
  obtain ⟨a0, len0, cap0, rfl⟩ := okWide_slice Tryd.underlying22 (hval 0 22 v0 rfl rfl)
  have k0 := h0
  have lt0 : ∀ x ∈ p0, x.block < W.heap.size := by obtain ⟨m, hm⟩ := k0; exact DataW.trod_lt m _ _ _ hm
  obtain ⟨z0, w0⟩ : ∃ zs, IsRow .u8 W a0 len0 cap0 zs := by
    obtain ⟨fuel, hf⟩ := h0
    rcases open_ints Tryd.underlying22 Tryd.underlying5 (by kernel_rfl) hf with ⟨hcs, _⟩ | ⟨x, l, c, zs, hcs, _, hl, hm, hz, _, hcell, hwz⟩
    · simp [Value.cells] at hcs
      obtain ⟨rfl, rfl, rfl⟩ := hcs
      exact ⟨[], .inl ⟨rfl, rfl, rfl, rfl⟩⟩
    · simp [Value.cells] at hcs
      obtain ⟨rfl, rfl, rfl⟩ := hcs
      exact ⟨zs, .inr ⟨_, rfl, hl, hm, by simpa using hz, hcell, hwz⟩⟩
  clear hA0 hval0
  refine (walk a0 len0 cap0 z0 W (handle_of_laid hL) w0).mono fun e W' ⟨he, bel⟩ => ?_
  subst he
  exact ⟨_, rfl, _, _, _, [], _, [], hW', trodAll_mk1 (shut_bool Tryd.underlying4 _), (trodAll_cons_mk (Below.trod laidOut (by kernel_rfl) (of_decide_eq_true (by kernel_rfl)) k0 bel lt0) trodAll_mk0), rfl, bel.frame _, fun h => by cases h⟩

theorem over : Rows.fnSemigroupRow.holds Tryd.pinned (OpenSpec.ofChange Rows.fnSemigroupSpec) :=
  OpenClaim.holds_of_wide 3 Tryd.f3 rfl rfl rfl rfl rfl rfl rfl ⟨rfl, rfl, rfl, rfl, rfl⟩ rfl rfl rfl rfl rfl (by kernel_rfl) Tryd.func3 (by kernel_rfl)
    (of_decide_eq_true (by kernel_rfl)) (by unfold Func.isWrapper; first | (rw [if_pos (by decide +kernel)]; kernel_rfl) | (rw [if_neg (by decide +kernel)]; exact ⟨rfl, rfl⟩))
    (fun os started H enc _ => lifted os started H enc)

theorem proved : Rows.FnSemigroupCardSaid :=
  Claim7.holds_tied_plain_at .later [] [.handle] true _ true
    over (fun _ h => by cases h) (by kernel_rfl) (fun _ h => by cases h) fnSemigroup_row_tie rfl ⟨rfl, rfl⟩ (by kernel_rfl) rfl
    (fun f fn hf hfn => by
      obtain rfl : f = 3 := Option.some.inj ((show Tryd.prog.funcNamed Rows.fnSemigroupRow.func = some 3 by kernel_rfl).symm.trans hf) |>.symm
      obtain rfl : fn = Tryd.f3 := (Option.some.inj (Tryd.func3.symm.trans hfn)).symm
      exact ⟨by kernel_rfl, fun j t ht => by
        rw [Tryd.params3] at ht
        rcases j with _ | j
        · have h0 : t = 22 := by simpa using ht.symm
          subst h0
          exact (show Tryd.prog.wantsStandIn 22 = false by kernel_rfl)
        simp at ht⟩)
    (by kernel_rfl)
#print axioms proved
end Go.Proofs.YtlnbglaminaojaaDoor.fnSemigroup
