/-
  FnExactTreeOf: for every input the law returns true and leaves its arguments as they were. No condition.
-/
import Derived.Test.YtlcjgppclclkoaaDoorRows
import Derived.Test.YtlcjgppclclkoaaDoorCards
import Derived.Test.YtlcjgppclclkoaaDoorTie
import Derived.Test.YtlcjgppclclkoaaDoorUO
import Derived.Test.YtlcjgppclclkoaaDoorUN
import Derived.Test.YtlcjgppclclkoaaDoorUB
import Derived.Test.YtlcjgppclclkoaaDoorTV
import Derived.WalkKit
import Derived.Deep.QuietTactic
import Derived.BigQuiet
import Derived.Outline
import Derived.ProofKit
import Derived.OpenShut
import Derived.ShutString
import Derived.ChangeOld
import Derived.Below
import Derived.ChangeSame
import Derived.ChangeVars
import Derived.JoinedOf
import Derived.RowKit
import Derived.RowKitTokens
import Derived.LaidLaws
import Derived.LaidHandle
import Derived.Stop.Joined
import Derived.SevenTiedAt
import Derived.Lay
namespace Go.Proofs.YtlcjgppclclkoaaDoor.fnExactTreeOf
set_option maxRecDepth 100000
open Go.ChangeShapes Go.WideShapes Go.ChangeAt Go.RowKit
open Go.ChangeMaps (open_string shut_string)
set_option linter.unusedVariables false

theorem own : ownKnob Tryd.prog.godebug = none := by kernel_rfl
theorem laidOut : laidOutB Tryd.prog = true := by kernel_rfl

def IsRow (k : IntKind) (w : World) (a : Option Addr) (len cap : Nat) (zs : List Int) : Prop :=
  (a = none ∧ len = 0 ∧ cap = 0 ∧ zs = []) ∨
  ∃ x, a = some x ∧ len ≤ cap ∧ cap ≤ maxLen ∧ zs.length = cap ∧ (∀ i, i < zs.length → w.cell? (x.add i) = some (.int k (zs.getD i 0))) ∧ ∀ n ∈ zs, (Lit.int k n).wf = true



set_option maxHeartbeats 3000000 in
theorem walk (a0 : ByteArray) (w : World) (het : True) (w0 : a0.size ≤ maxLen) :
    Calls Tryd.prog 4 #[.string a0] w fun e w' => e = .returned (.bool true) ∧ Below w.heap.size w w' := by
  have HET := Lib.hid het
  clear het
  by_cases hbig0 : 1048576 < a0.size
  · go_enter Tryd.func4, Tryd.ntmps4
    go_wp2
    go_ret
    exact ⟨rfl, Below.refl _ _⟩
  have hsi : ¬ ((1048576 : Int) < (a0.size : Int)) := by omega
  have HS := Lib.hid (fun W : World => specOfT_any a0 (by omega) W)
  have HI := Lib.hid (fun W : World => implOfT_any a0 (by omega) W)
  have HB := Lib.hid (Below.refl w.heap.size w)
  clear hbig0
  go_enter Tryd.func4, Tryd.ntmps4
  have HC := Lib.hid (HS.out w)
  go_wp2_with fail
  refine HC.out.mono ?_
  rintro e w1 ⟨R, hRs, hb, As, ns, cs, rfl, ho⟩
  have HOK := Lib.hid hRs
  have HLs : Hid (w.heap.size ≤ w.heap.size) := HB.out.size
  have HB := Lib.hid (HB.out.trans (hb.mono HB.out.size))
  have HRs := Lib.hid ho
  have hns : ns ≤ 60 := by rw [← own_len HRs.out]; exact HOK.out.len
  clear hb ho HC hRs
  have HRs := Lib.hid (HRs.out.alloc (.cells #[.slice As ns cs, .string (resE R)] 29))
  have KBbs := Lib.hid (Blk.new w1 29 #[.slice As ns cs, .string (resE R)])
  have HB := Lib.hid (HB.out.alloc HB.out.size (.cells #[.slice As ns cs, .string (resE R)] 29))
  have HC := Lib.hid (HI.out (w1.alloc (.cells #[.slice As ns cs, .string (resE R)] 29)))
  go_wp2_with fail
  refine HC.out.mono ?_
  rintro e w2 ⟨R', hRg, hb, Ag, ng, cg, rfl, ho⟩
  obtain rfl := HOK.out.same hRg
  have APs_g := Lib.hid (apart_of4 HRs.out (Nat.le_refl _) ho)
  have HLg : Hid (w.heap.size ≤ (w1.alloc (.cells #[.slice As ns cs, .string (resE R)] 29)).heap.size) := HB.out.size
  have KBbs := Lib.hid (KBbs.out.below hb KBbs.out.lt)
  have HRs := Lib.hid (own_below0 HRs.out hb)
  have HB := Lib.hid (HB.out.trans (hb.mono HB.out.size))
  have HRg := Lib.hid ho
  have hng : ng ≤ 60 := by rw [← own_len HRg.out]; exact HOK.out.len
  clear hb ho HC
  have KLbs : Hid (w1.heap.size < w2.heap.size) := KBbs.out.lt
  have KBbs := Lib.hid (KBbs.out.alloc (.cells #[.slice Ag ng cg, .string (resE R)] 29))
  have HRs := Lib.hid (HRs.out.alloc (.cells #[.slice Ag ng cg, .string (resE R)] 29))
  have HRg := Lib.hid (HRg.out.alloc (.cells #[.slice Ag ng cg, .string (resE R)] 29))
  have KBbg := Lib.hid (Blk.new w2 29 #[.slice Ag ng cg, .string (resE R)])
  have HB := Lib.hid (HB.out.alloc HB.out.size (.cells #[.slice Ag ng cg, .string (resE R)] 29))
  have HC := Lib.hid (eqTree_same Ag As ng ns cg cs (resL R) (resE R) _ (RS.of_own HRg.out) (RS.of_own HRs.out) (by omega))
  have hbb : (R.isSome != R.isSome) = false := by simp
  have kbs0 : w2.cell? ⟨w1.heap.size, 0, none⟩ = some (.slice As ns cs) := by have := KBbs.out.cell 0; rwa [World.cell?_alloc_lt _ _ _ (KLbs.out)] at this
  have kbs1 : w2.cell? ⟨w1.heap.size, 1, none⟩ = some (.string (resE R)) := by have := KBbs.out.cell 1; rwa [World.cell?_alloc_lt _ _ _ (KLbs.out)] at this
  have kbsl : w1.heap.size < w2.heap.size := KLbs.out
  go_wp2_with fail
  refine HC.out.mono ?_
  rintro e w3 ⟨rfl, hb⟩
  clear kbs0 kbs1 kbsl
  have KBbs := Lib.hid (KBbs.out.below hb KBbs.out.lt)
  have KBbg := Lib.hid (KBbg.out.below hb KBbg.out.lt)
  have HRs := Lib.hid (own_below0 HRs.out hb)
  have HRg := Lib.hid (own_below0 HRg.out hb)
  have HB := Lib.hid (HB.out.trans (hb.mono HB.out.size))
  clear hb HC hbb
  have HC := Lib.hid (markTree_any _ Ag ng cg 1 _ (resE R) _ HRg.out (by omega) (by omega) (by omega))
  have kbs0 : w3.cell? ⟨w1.heap.size, 0, none⟩ = some (.slice As ns cs) := KBbs.out.cell 0
  have kbs1 : w3.cell? ⟨w1.heap.size, 1, none⟩ = some (.string (resE R)) := KBbs.out.cell 1
  have kbsl : w1.heap.size < w3.heap.size := KBbs.out.lt
  have kbg0 : w3.cell? ⟨w2.heap.size, 0, none⟩ = some (.slice Ag ng cg) := KBbg.out.cell 0
  have kbg1 : w3.cell? ⟨w2.heap.size, 1, none⟩ = some (.string (resE R)) := KBbg.out.cell 1
  have kbgl : w2.heap.size < w3.heap.size := KBbg.out.lt
  go_wp2_with fail
  refine HC.out.mono ?_
  rintro e w4 ⟨rfl, hown, hg⟩
  clear kbs0 kbs1 kbsl kbg0 kbg1 kbgl
  have KBbs := Lib.hid (KBbs.out.grown hg (own_blk_ne HRg.out KBbs.out (by decide)).symm)
  have KBbg := Lib.hid (KBbg.out.grown hg (own_blk_ne HRg.out KBbg.out (by decide)).symm)
  have HRs := Lib.hid (own_apart4 HRs.out HRg.out hg APs_g.out)
  have HB := Lib.hid (HB.out.grown hg HB.out.size (fun k e => Nat.le_trans HLg.out (HRg.out.lt k e).1))
  have HRg := Lib.hid hown
  clear hg hown
  clear HC
  have e1 : ((1 + ng : Nat) : Int) = 1 + (ng : Int) := by omega
  have HC := Lib.hid (heldTree_any Ag ng cg 1 (resE R) _ (RS.of_own HRg.out) (by omega) (by omega) (by omega))
  have kbs0 : w4.cell? ⟨w1.heap.size, 0, none⟩ = some (.slice As ns cs) := KBbs.out.cell 0
  have kbs1 : w4.cell? ⟨w1.heap.size, 1, none⟩ = some (.string (resE R)) := KBbs.out.cell 1
  have kbsl : w1.heap.size < w4.heap.size := KBbs.out.lt
  have kbg0 : w4.cell? ⟨w2.heap.size, 0, none⟩ = some (.slice Ag ng cg) := KBbg.out.cell 0
  have kbg1 : w4.cell? ⟨w2.heap.size, 1, none⟩ = some (.string (resE R)) := KBbg.out.cell 1
  have kbgl : w2.heap.size < w4.heap.size := KBbg.out.lt
  go_wp2_with fail
  refine HC.out.mono ?_
  rintro e w5 ⟨rfl, hb⟩
  clear kbs0 kbs1 kbsl kbg0 kbg1 kbgl
  have KBbs := Lib.hid (KBbs.out.below hb KBbs.out.lt)
  have KBbg := Lib.hid (KBbg.out.below hb KBbg.out.lt)
  have HRs := Lib.hid (own_below0 HRs.out hb)
  have HRg := Lib.hid (own_below0 HRg.out hb)
  have HB := Lib.hid (HB.out.trans (hb.mono HB.out.size))
  clear hb HC
  have hq0 : ¬ ((1 : Int) + (ng : Int) < 0) := by omega
  have HC := Lib.hid (HI.out w5)
  have kbs0 : w5.cell? ⟨w1.heap.size, 0, none⟩ = some (.slice As ns cs) := KBbs.out.cell 0
  have kbs1 : w5.cell? ⟨w1.heap.size, 1, none⟩ = some (.string (resE R)) := KBbs.out.cell 1
  have kbsl : w1.heap.size < w5.heap.size := KBbs.out.lt
  have kbg0 : w5.cell? ⟨w2.heap.size, 0, none⟩ = some (.slice Ag ng cg) := KBbg.out.cell 0
  have kbg1 : w5.cell? ⟨w2.heap.size, 1, none⟩ = some (.string (resE R)) := KBbg.out.cell 1
  have kbgl : w2.heap.size < w5.heap.size := KBbg.out.lt
  go_wp2_with fail
  refine HC.out.mono ?_
  rintro e w6 ⟨R', hRh, hb, Ah, nh, ch, rfl, ho⟩
  obtain rfl := HOK.out.same hRh
  clear kbs0 kbs1 kbsl kbg0 kbg1 kbgl
  have APs_h := Lib.hid (apart_of4 HRs.out (Nat.le_refl _) ho)
  have APg_h := Lib.hid (apart_of4 HRg.out (Nat.le_refl _) ho)
  have HLh : Hid (w.heap.size ≤ w5.heap.size) := HB.out.size
  have KBbs := Lib.hid (KBbs.out.below hb KBbs.out.lt)
  have KBbg := Lib.hid (KBbg.out.below hb KBbg.out.lt)
  have HRs := Lib.hid (own_below0 HRs.out hb)
  have HRg := Lib.hid (own_below0 HRg.out hb)
  have HB := Lib.hid (HB.out.trans (hb.mono HB.out.size))
  have HRh := Lib.hid ho
  have hnh : nh ≤ 60 := by rw [← own_len HRh.out]; exact HOK.out.len
  clear hb ho HC
  have KLbs : Hid (w1.heap.size < w6.heap.size) := KBbs.out.lt
  have KLbg : Hid (w2.heap.size < w6.heap.size) := KBbg.out.lt
  have KBbs := Lib.hid (KBbs.out.alloc (.cells #[.slice Ah nh ch, .string (resE R)] 29))
  have KBbg := Lib.hid (KBbg.out.alloc (.cells #[.slice Ah nh ch, .string (resE R)] 29))
  have HRs := Lib.hid (HRs.out.alloc (.cells #[.slice Ah nh ch, .string (resE R)] 29))
  have HRg := Lib.hid (HRg.out.alloc (.cells #[.slice Ah nh ch, .string (resE R)] 29))
  have HRh := Lib.hid (HRh.out.alloc (.cells #[.slice Ah nh ch, .string (resE R)] 29))
  have KBbh := Lib.hid (Blk.new w6 29 #[.slice Ah nh ch, .string (resE R)])
  have HB := Lib.hid (HB.out.alloc HB.out.size (.cells #[.slice Ah nh ch, .string (resE R)] 29))
  have HC := Lib.hid (eqTree_same Ah As nh ns ch cs (resL R) (resE R) _ (RS.of_own HRh.out) (RS.of_own HRs.out) (by omega))
  have hbb : (R.isSome != R.isSome) = false := by simp
  have kbs0 : w6.cell? ⟨w1.heap.size, 0, none⟩ = some (.slice As ns cs) := by have := KBbs.out.cell 0; rwa [World.cell?_alloc_lt _ _ _ (KLbs.out)] at this
  have kbs1 : w6.cell? ⟨w1.heap.size, 1, none⟩ = some (.string (resE R)) := by have := KBbs.out.cell 1; rwa [World.cell?_alloc_lt _ _ _ (KLbs.out)] at this
  have kbsl : w1.heap.size < w6.heap.size := KLbs.out
  have kbg0 : w6.cell? ⟨w2.heap.size, 0, none⟩ = some (.slice Ag ng cg) := by have := KBbg.out.cell 0; rwa [World.cell?_alloc_lt _ _ _ (KLbg.out)] at this
  have kbg1 : w6.cell? ⟨w2.heap.size, 1, none⟩ = some (.string (resE R)) := by have := KBbg.out.cell 1; rwa [World.cell?_alloc_lt _ _ _ (KLbg.out)] at this
  have kbgl : w2.heap.size < w6.heap.size := KLbg.out
  go_wp2_with fail
  refine HC.out.mono ?_
  rintro e w7 ⟨rfl, hb⟩
  clear kbs0 kbs1 kbsl kbg0 kbg1 kbgl
  have KBbs := Lib.hid (KBbs.out.below hb KBbs.out.lt)
  have KBbg := Lib.hid (KBbg.out.below hb KBbg.out.lt)
  have KBbh := Lib.hid (KBbh.out.below hb KBbh.out.lt)
  have HRs := Lib.hid (own_below0 HRs.out hb)
  have HRg := Lib.hid (own_below0 HRg.out hb)
  have HRh := Lib.hid (own_below0 HRh.out hb)
  have HB := Lib.hid (HB.out.trans (hb.mono HB.out.size))
  clear hb HC hbb
  have HC := Lib.hid (heldTree_any Ag ng cg 1 (resE R) _ (RS.of_own HRg.out) (by omega) (by omega) (by omega))
  have kbs0 : w7.cell? ⟨w1.heap.size, 0, none⟩ = some (.slice As ns cs) := KBbs.out.cell 0
  have kbs1 : w7.cell? ⟨w1.heap.size, 1, none⟩ = some (.string (resE R)) := KBbs.out.cell 1
  have kbsl : w1.heap.size < w7.heap.size := KBbs.out.lt
  have kbg0 : w7.cell? ⟨w2.heap.size, 0, none⟩ = some (.slice Ag ng cg) := KBbg.out.cell 0
  have kbg1 : w7.cell? ⟨w2.heap.size, 1, none⟩ = some (.string (resE R)) := KBbg.out.cell 1
  have kbgl : w2.heap.size < w7.heap.size := KBbg.out.lt
  have kbh0 : w7.cell? ⟨w6.heap.size, 0, none⟩ = some (.slice Ah nh ch) := KBbh.out.cell 0
  have kbh1 : w7.cell? ⟨w6.heap.size, 1, none⟩ = some (.string (resE R)) := KBbh.out.cell 1
  have kbhl : w6.heap.size < w7.heap.size := KBbh.out.lt
  go_wp2_with fail
  refine HC.out.mono ?_
  rintro e w8 ⟨rfl, hb⟩
  clear kbs0 kbs1 kbsl kbg0 kbg1 kbgl kbh0 kbh1 kbhl
  have KBbs := Lib.hid (KBbs.out.below hb KBbs.out.lt)
  have KBbg := Lib.hid (KBbg.out.below hb KBbg.out.lt)
  have KBbh := Lib.hid (KBbh.out.below hb KBbh.out.lt)
  have HRs := Lib.hid (own_below0 HRs.out hb)
  have HRg := Lib.hid (own_below0 HRg.out hb)
  have HRh := Lib.hid (own_below0 HRh.out hb)
  have HB := Lib.hid (HB.out.trans (hb.mono HB.out.size))
  clear hb HC
  go_wp2
  go_ret
  exact ⟨rfl, HB.out⟩

/-! ### THE ROW's STEP -/
abbrev laidL : List (String × DataW Unit) := [("unicode/utf8.acceptRanges", Rows.laid_unicode_utf8_acceptRanges), ("unicode/utf8.first", Rows.laid_unicode_utf8_first)]
theorem laidWorld_met (os : Os) (args : Array Value) : laidMetH Tryd.prog laidL ((World.laidAll Tryd.prog os laidL).forCall (fun _ _ => 0) ⟨#[], args, []⟩).memory :=
  laidMetH_of_parts (laidMet_laidAll _ (by kernel_rfl) (by kernel_rfl)) (by kernel_rfl)

set_option maxRecDepth 100000 in
theorem lifted (os : Os) (started : os.Started) (H : Type) (enc : TypeId × Value → H) :
    ReturnsInHanded {} Tryd.checked os 4 .any (fun w args => (Rows.fnExactTreeOfSpec.pre enc Tryd.prog Tryd.f4 [] false w args ∧ laidMetH Tryd.prog laidL w) ∧ sizedMet enc Tryd.prog Tryd.f4 (OpenSpec.ofChange Rows.fnExactTreeOfSpec) false w args) (Rows.fnExactTreeOfSpec.post enc Tryd.prog Tryd.f4 false true false false) := by
  refine returnsInHanded_of_change_and (C := Tryd.checked) (X := fun w _ => laidMetH Tryd.prog laidL w) (fun _ _ _ hh h => h.of_heap hh) own started (by kernel_rfl) Tryd.func4
    (ChangeSpec.witness_shaped (enc := enc) (C := Tryd.checked) (os := os) (X := fun w _ => laidMetH Tryd.prog laidL w) false (World.laidAll Tryd.prog os laidL) #[.string ByteArray.empty] 8 rfl (World.shaped_of_ZipB (by kernel_rfl) (by kernel_rfl)) (by kernel_rfl) (by kernel_rfl) (by kernel_rfl) (laidWorld_met os _)) ?_
  intro W base args ds gs before hval0 hW _ _ hL _
  have hval : ∀ (j : Nat) t v, Tryd.f4.params[j]? = some t → args[j]? = some v → Value.okWide Tryd.prog W .any base t v := hval0
  have hW' := hW
  obtain ⟨p, q, hA0, hV, rfl, hfz, hnd⟩ := hW
  have hA : DataW.TrodAll enc Tryd.prog W 0 (fun _ => true) true Tryd.f4.params.toList args.toList ds p := hA0
  rw [Tryd.params4] at hA hval
  obtain ⟨v0, vs0, d0, ds0, p0, qq0, hargs, rfl, rfl, h0, r0⟩ := trodAll_cons hA
  obtain ⟨rfl, rfl, rfl⟩ := trodAll_nil r0
  obtain rfl : args = #[v0] := by cases args; simp_all
  obtain ⟨rfl, rfl⟩ := trodVars_none hV
  obtain ⟨a0, rfl, rfl, rfl, w0⟩ := open_string Tryd.underlying9 (hval 0 9 v0 rfl rfl) h0
  clear hA0 hval0
  refine (walk a0 W trivial w0).mono fun e W' ⟨he, bel⟩ => ?_
  subst he
  exact ⟨_, rfl, _, _, _, [], _, [], hW', trodAll_mk1 (shut_bool Tryd.underlying4 _), (trodAll_cons_mk (shut_string Tryd.underlying9 w0) trodAll_mk0), rfl, bel.frame _, fun h => by cases h⟩

theorem over : Rows.fnExactTreeOfRow.holds Tryd.pinned (OpenSpec.ofChange Rows.fnExactTreeOfSpec) :=
  OpenClaim.holds_of_wide 4 Tryd.f4 rfl rfl rfl rfl rfl rfl rfl ⟨rfl, rfl, rfl, rfl, rfl⟩ rfl rfl rfl rfl rfl (by kernel_rfl) Tryd.func4 (by kernel_rfl)
    (of_decide_eq_true (by kernel_rfl)) (by unfold Func.isWrapper; first | (rw [if_pos (by decide +kernel)]; kernel_rfl) | (rw [if_neg (by decide +kernel)]; exact ⟨rfl, rfl⟩))
    (fun os started H enc _ => lifted os started H enc)

theorem proved : Rows.FnExactTreeOfCardSaid :=
  Claim7.holds_tied_plain_at .later [] [.data, .pinned] true _ false
    over (fun _ h => by cases h) (by kernel_rfl) (fun _ h => by cases h) fnExactTreeOf_row_tie rfl ⟨rfl, rfl⟩ (by kernel_rfl) rfl
    (fun f fn hf hfn => by
      obtain rfl : f = 4 := Option.some.inj ((show Tryd.prog.funcNamed Rows.fnExactTreeOfRow.func = some 4 by kernel_rfl).symm.trans hf) |>.symm
      obtain rfl : fn = Tryd.f4 := (Option.some.inj (Tryd.func4.symm.trans hfn)).symm
      exact ⟨by kernel_rfl, fun j t ht => by
        rw [Tryd.params4] at ht
        rcases j with _ | j
        · have h0 : t = 9 := by simpa using ht.symm
          subst h0
          exact (show Tryd.prog.wantsStandIn 9 = false by kernel_rfl)
        simp at ht⟩)
    (by kernel_rfl)
#print axioms proved
end Go.Proofs.YtlcjgppclclkoaaDoor.fnExactTreeOf

