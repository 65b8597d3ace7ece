/-
  FnExactSwapBelow: for every input the law returns true and leaves its arguments as they were. No condition.
-/
import Derived.Test.YtdkhapfadcoclaaDoorRows
import Derived.Test.YtdkhapfadcoclaaDoorCards
import Derived.Test.YtdkhapfadcoclaaDoorTie
import Derived.Test.YtdkhapfadcoclaaDoorSo6
import Derived.Test.YtdkhapfadcoclaaDoorSk
import Derived.WalkKit
import Derived.Deep.QuietTactic
import Derived.BigQuiet
import Derived.Outline
import Derived.ProofKit
import Derived.OpenShut
import Derived.ShutString
import Derived.ChangeOld
import Derived.Below
import Derived.ChangeSame
import Derived.ChangeVars
import Derived.JoinedOf
import Derived.RowKit
import Derived.RowKitTokens
import Derived.LaidLaws
import Derived.LaidHandle
import Derived.Stop.Joined
import Derived.SevenTiedAt
import Derived.Lay
namespace Go.Proofs.YtdkhapfadcoclaaDoor.fnExactSwapBelow
set_option maxRecDepth 100000
open Go.ChangeShapes Go.WideShapes Go.ChangeAt Go.RowKit
open Go.ChangeMaps (open_string shut_string)
set_option linter.unusedVariables false

theorem own : ownKnob Tryd.prog.godebug = none := by kernel_rfl
theorem laidOut : laidOutB Tryd.prog = true := by kernel_rfl

def IsRow (k : IntKind) (w : World) (a : Option Addr) (len cap : Nat) (zs : List Int) : Prop :=
  (a = none ∧ len = 0 ∧ cap = 0 ∧ zs = []) ∨
  ∃ x, a = some x ∧ len ≤ cap ∧ cap ≤ maxLen ∧ zs.length = cap ∧ (∀ i, i < zs.length → w.cell? (x.add i) = some (.int k (zs.getD i 0))) ∧ ∀ n ∈ zs, (Lit.int k n).wf = true



set_option maxHeartbeats 3000000 in
theorem walk (x0 y0 : ByteArray) (z0 : Bool) (x1 y1 : ByteArray) (z1 : Bool) (w : World) (het : True) (w0 : x0.size ≤ maxLen ∧ y0.size ≤ maxLen) (w1 : x1.size ≤ maxLen ∧ y1.size ≤ maxLen) :
    Calls Tryd.prog 11 #[.agg #[.string x0, .string y0, .bool z0], .agg #[.string x1, .string y1, .bool z1]] w fun e w' => e = .returned (.bool true) ∧ Below w.heap.size w w' := by
  have HET := Lib.hid het
  clear het
  obtain ⟨hx0, hy0⟩ := w0
  obtain ⟨f0, rfl⟩ : ∃ l, x0 = bs l := ⟨_, (bs_of _).symm⟩
  obtain ⟨t0, rfl⟩ : ∃ l, y0 = bs l := ⟨_, (bs_of _).symm⟩
  obtain ⟨hx1, hy1⟩ := w1
  obtain ⟨f1, rfl⟩ : ∃ l, x1 = bs l := ⟨_, (bs_of _).symm⟩
  obtain ⟨t1, rfl⟩ : ∃ l, y1 = bs l := ⟨_, (bs_of _).symm⟩
  have HL0 := Lib.hid (And.intro (bs_size f0) (bs_size t0))
  have HL1 := Lib.hid (And.intro (bs_size f1) (bs_size t1))
  have HB := Lib.hid (Below.refl w.heap.size w)
  have HZ0 := Lib.hid (fun (r : Int) (h0 : 0 ≤ r) (h1 : r ≤ 1048576) (W : World) => szSwap_any (bs f0) (bs t0) z0 r h0 h1 hx0 hy0 W)
  have HZ1 := Lib.hid (fun (r : Int) (h0 : 0 ≤ r) (h1 : r ≤ 1048576) (W : World) => szSwap_any (bs f1) (bs t1) z1 r h0 h1 hx1 hy1 W)
  clear hx0 hy0 hx1 hy1
  go_enter Tryd.func11, Tryd.ntmps11
  go_wp2_with fail
  refine (HZ0.out 1048576 (by omega) (by omega) _).mono ?_
  rintro e v1 ⟨r0, rfl, hr0_0, hr1_0, hr2_0, hb1⟩
  have HQ0 := Lib.hid hr2_0
  clear hr2_0 HZ0
  have Ka0 := Lib.hid (((Blk.new w 28 #[.string (bs f0), .string (bs t0), .bool z0]).alloc (.cells #[.string (bs f1), .string (bs t1), .bool z1] 28)).on hb1)
  have Ka1 := Lib.hid ((blk_snd w 28 28 #[.string (bs f0), .string (bs t0), .bool z0] #[.string (bs f1), .string (bs t1), .bool z1]).on hb1)
  have HB := Lib.hid ((bel_al (bel_al HB.out (.cells #[.string (bs f0), .string (bs t0), .bool z0] 28)) (.cells #[.string (bs f1), .string (bs t1), .bool z1] 28)).trans (hb1.mono (bel_al (bel_al HB.out (.cells #[.string (bs f0), .string (bs t0), .bool z0] 28)) (.cells #[.string (bs f1), .string (bs t1), .bool z1] 28)).size))
  clear hb1
  have ca00 : v1.cell? ⟨w.heap.size, 0, none⟩ = some (.string (bs f0)) := Ka0.out.cell 0
  have ca01 : v1.cell? ⟨w.heap.size, 1, none⟩ = some (.string (bs t0)) := Ka0.out.cell 1
  have ca02 : v1.cell? ⟨w.heap.size, 2, none⟩ = some (.bool z0) := Ka0.out.cell 2
  have la0 : w.heap.size < v1.heap.size := Ka0.out.lt
  have ca10 : v1.cell? ⟨w.heap.size + 1, 0, none⟩ = some (.string (bs f1)) := Ka1.out.cell 0
  have ca11 : v1.cell? ⟨w.heap.size + 1, 1, none⟩ = some (.string (bs t1)) := Ka1.out.cell 1
  have ca12 : v1.cell? ⟨w.heap.size + 1, 2, none⟩ = some (.bool z1) := Ka1.out.cell 2
  have la1 : w.heap.size + 1 < v1.heap.size := Ka1.out.lt
  by_cases hr0 : r0 < 0
  · go_wp2
    go_ret
    exact ⟨rfl, HB.out⟩
  have hq0 : f0.length ≤ 1048576 ∧ t0.length ≤ 1048576 := by rw [← HL0.out.1, ← HL0.out.2]; exact HQ0.out (by omega)
  obtain ⟨hf0, ht0⟩ := hq0
  clear HQ0 HL0
  go_wp2_with fail
  refine (HZ1.out r0 (by omega) (by omega) _).mono ?_
  rintro e v2 ⟨r1, rfl, hr0_1, hr1_1, hr2_1, hb2⟩
  have HQ1 := Lib.hid hr2_1
  clear hr2_1 HZ1
  clear ca00 ca01 ca02 la0 ca10 ca11 ca12 la1
  have Ka0 := Lib.hid ((Ka0.out).on hb2)
  have Ka1 := Lib.hid ((Ka1.out).on hb2)
  have HB := Lib.hid (HB.out.trans (hb2.mono HB.out.size))
  clear hb2
  have ca00 : v2.cell? ⟨w.heap.size, 0, none⟩ = some (.string (bs f0)) := Ka0.out.cell 0
  have ca01 : v2.cell? ⟨w.heap.size, 1, none⟩ = some (.string (bs t0)) := Ka0.out.cell 1
  have ca02 : v2.cell? ⟨w.heap.size, 2, none⟩ = some (.bool z0) := Ka0.out.cell 2
  have la0 : w.heap.size < v2.heap.size := Ka0.out.lt
  have ca10 : v2.cell? ⟨w.heap.size + 1, 0, none⟩ = some (.string (bs f1)) := Ka1.out.cell 0
  have ca11 : v2.cell? ⟨w.heap.size + 1, 1, none⟩ = some (.string (bs t1)) := Ka1.out.cell 1
  have ca12 : v2.cell? ⟨w.heap.size + 1, 2, none⟩ = some (.bool z1) := Ka1.out.cell 2
  have la1 : w.heap.size + 1 < v2.heap.size := Ka1.out.lt
  by_cases hr1 : r1 < 0
  · go_wp2
    go_ret
    exact ⟨rfl, HB.out⟩
  have hq1 : f1.length ≤ 1048576 ∧ t1.length ≤ 1048576 := by rw [← HL1.out.1, ← HL1.out.2]; exact HQ1.out (by omega)
  obtain ⟨hf1, ht1⟩ := hq1
  clear HQ1 HL1
  have HS := Lib.hid (fun W => specBelow_any f0 t0 f1 t1 z0 z1 (by omega) (by omega) (by omega) (by omega) W)
  have HI := Lib.hid (fun W => implBelow_any f0 t0 f1 t1 z0 z1 W)
  generalize belowS ⟨f0, t0, z0⟩ ⟨f1, t1, z1⟩ = R at *
  clear hf0 ht0 hf1 ht1
  generalize bs f0 = x0 at *
  generalize bs t0 = y0 at *
  generalize bs f1 = x1 at *
  generalize bs t1 = y1 at *
  have HT0 := Lib.hid (fun W => toSwap_any x0 y0 z0 W)
  have HT1 := Lib.hid (fun W => toSwap_any x1 y1 z1 W)
  clear ca00 ca01 ca02 la0 ca10 ca11 ca12 la1
  have HCK : Hid (∀ w' : World, Below v2.heap.size v2 w' → w'.cell? ⟨w.heap.size, 0, none⟩ = some (.string x0) ∧ w'.cell? ⟨w.heap.size, 1, none⟩ = some (.string y0) ∧ w'.cell? ⟨w.heap.size, 2, none⟩ = some (.bool z0) ∧ w'.cell? ⟨w.heap.size + 1, 0, none⟩ = some (.string x1) ∧ w'.cell? ⟨w.heap.size + 1, 1, none⟩ = some (.string y1) ∧ w'.cell? ⟨w.heap.size + 1, 2, none⟩ = some (.bool z1)) := fun w' hW => ⟨(Ka0.out.below hW Ka0.out.lt).cell 0, (Ka0.out.below hW Ka0.out.lt).cell 1, (Ka0.out.below hW Ka0.out.lt).cell 2, (Ka1.out.below hW Ka1.out.lt).cell 0, (Ka1.out.below hW Ka1.out.lt).cell 1, (Ka1.out.below hW Ka1.out.lt).cell 2⟩
  have HBc : Below v2.heap.size v2 v2.drew := (Below.refl _ _).drew
  go_wp2_with fail
  rename_i Ko aKo
  apply kcut0 (fun F : Act => Hid (∀ (V : World), Below v2.heap.size v2 V → Ko F V))
  case h1 =>
    intro HK
    go_region_held3 (fun w' => w'.cell? ⟨w.heap.size, 0, none⟩ = some (.string x0) ∧ w'.cell? ⟨w.heap.size, 1, none⟩ = some (.string y0) ∧ w'.cell? ⟨w.heap.size, 2, none⟩ = some (.bool z0) ∧ w'.cell? ⟨w.heap.size + 1, 0, none⟩ = some (.string x1) ∧ w'.cell? ⟨w.heap.size + 1, 1, none⟩ = some (.string y1) ∧ w'.cell? ⟨w.heap.size + 1, 2, none⟩ = some (.bool z1)) (exact HCK.out _ (by first | exact HBc | exact HBc.alloc HBc.size _))
      (first
        | (go_at_call 21
           fail_if_success (have hh := hb1)
           refine (HT0.out _).mono ?_
           rintro e q1 ⟨rfl, hb1⟩
           skip
           have HBc := bel_step (by first | exact HBc | exact HBc.alloc HBc.size _) hb1 (Nat.le_refl _))
        | (go_at_call 21
           refine (HT1.out _).mono ?_
           rintro e q2 ⟨rfl, hb2⟩
           skip
           have HBc := bel_step (by first | exact HBc | exact HBc.alloc HBc.size _) hb2 (Nat.le_refl _))
        | (go_at_call 32
           refine (HS.out _).mono ?_
           rintro e q3 ⟨rfl, hb3⟩
           skip
           skip
           have HBc := bel_step (by first | exact HBc | exact HBc.alloc HBc.size _) hb3 (Nat.le_refl _)))
    all_goals exact HK.out _ HBc
  intro u1 hb
  refine aKo _ _ ?_
  clear aKo HBc HCK
  have Ka0 := Lib.hid (Ka0.out.on hb)
  have Ka1 := Lib.hid (Ka1.out.on hb)
  have HB := Lib.hid (HB.out.trans (hb.mono HB.out.size))
  clear hb
  have ca00 : u1.cell? ⟨w.heap.size, 0, none⟩ = some (.string x0) := Ka0.out.cell 0
  have ca01 : u1.cell? ⟨w.heap.size, 1, none⟩ = some (.string y0) := Ka0.out.cell 1
  have ca02 : u1.cell? ⟨w.heap.size, 2, none⟩ = some (.bool z0) := Ka0.out.cell 2
  have la0 : w.heap.size < u1.heap.size := Ka0.out.lt
  have ca10 : u1.cell? ⟨w.heap.size + 1, 0, none⟩ = some (.string x1) := Ka1.out.cell 0
  have ca11 : u1.cell? ⟨w.heap.size + 1, 1, none⟩ = some (.string y1) := Ka1.out.cell 1
  have ca12 : u1.cell? ⟨w.heap.size + 1, 2, none⟩ = some (.bool z1) := Ka1.out.cell 2
  have la1 : w.heap.size + 1 < u1.heap.size := Ka1.out.lt
  clear ca00 ca01 ca02 la0 ca10 ca11 ca12 la1
  have HCK : Hid (∀ w' : World, Below u1.heap.size u1 w' → w'.cell? ⟨w.heap.size, 0, none⟩ = some (.string x0) ∧ w'.cell? ⟨w.heap.size, 1, none⟩ = some (.string y0) ∧ w'.cell? ⟨w.heap.size, 2, none⟩ = some (.bool z0) ∧ w'.cell? ⟨w.heap.size + 1, 0, none⟩ = some (.string x1) ∧ w'.cell? ⟨w.heap.size + 1, 1, none⟩ = some (.string y1) ∧ w'.cell? ⟨w.heap.size + 1, 2, none⟩ = some (.bool z1)) := fun w' hW => ⟨(Ka0.out.below hW Ka0.out.lt).cell 0, (Ka0.out.below hW Ka0.out.lt).cell 1, (Ka0.out.below hW Ka0.out.lt).cell 2, (Ka1.out.below hW Ka1.out.lt).cell 0, (Ka1.out.below hW Ka1.out.lt).cell 1, (Ka1.out.below hW Ka1.out.lt).cell 2⟩
  have HBc : Below u1.heap.size u1 u1.drew := (Below.refl _ _).drew
  go_wp2_with fail
  rename_i Ko aKo
  apply kcut0 (fun F : Act => Hid (∀ (V : World), Below u1.heap.size u1 V → Ko F V))
  case h1 =>
    intro HK
    go_region_held3 (fun w' => w'.cell? ⟨w.heap.size, 0, none⟩ = some (.string x0) ∧ w'.cell? ⟨w.heap.size, 1, none⟩ = some (.string y0) ∧ w'.cell? ⟨w.heap.size, 2, none⟩ = some (.bool z0) ∧ w'.cell? ⟨w.heap.size + 1, 0, none⟩ = some (.string x1) ∧ w'.cell? ⟨w.heap.size + 1, 1, none⟩ = some (.string y1) ∧ w'.cell? ⟨w.heap.size + 1, 2, none⟩ = some (.bool z1)) (exact HCK.out _ (by first | exact HBc | exact HBc.alloc HBc.size _))
      (first
        | (go_at_call 21
           fail_if_success (have hh := hb1)
           refine (HT0.out _).mono ?_
           rintro e q1 ⟨rfl, hb1⟩
           skip
           have HBc := bel_step (by first | exact HBc | exact HBc.alloc HBc.size _) hb1 (Nat.le_refl _))
        | (go_at_call 21
           refine (HT1.out _).mono ?_
           rintro e q2 ⟨rfl, hb2⟩
           skip
           have HBc := bel_step (by first | exact HBc | exact HBc.alloc HBc.size _) hb2 (Nat.le_refl _))
        | (go_at_call 33
           refine (HI.out _).mono ?_
           rintro e q3 ⟨rfl, hb3⟩
           skip
           skip
           have HBc := bel_step (by first | exact HBc | exact HBc.alloc HBc.size _) hb3 (Nat.le_refl _)))
    all_goals exact HK.out _ HBc
  intro u2 hb
  refine aKo _ _ ?_
  clear aKo HBc HCK
  have Ka0 := Lib.hid (Ka0.out.on hb)
  have Ka1 := Lib.hid (Ka1.out.on hb)
  have HB := Lib.hid (HB.out.trans (hb.mono HB.out.size))
  clear hb
  have ca00 : u2.cell? ⟨w.heap.size, 0, none⟩ = some (.string x0) := Ka0.out.cell 0
  have ca01 : u2.cell? ⟨w.heap.size, 1, none⟩ = some (.string y0) := Ka0.out.cell 1
  have ca02 : u2.cell? ⟨w.heap.size, 2, none⟩ = some (.bool z0) := Ka0.out.cell 2
  have la0 : w.heap.size < u2.heap.size := Ka0.out.lt
  have ca10 : u2.cell? ⟨w.heap.size + 1, 0, none⟩ = some (.string x1) := Ka1.out.cell 0
  have ca11 : u2.cell? ⟨w.heap.size + 1, 1, none⟩ = some (.string y1) := Ka1.out.cell 1
  have ca12 : u2.cell? ⟨w.heap.size + 1, 2, none⟩ = some (.bool z1) := Ka1.out.cell 2
  have la1 : w.heap.size + 1 < u2.heap.size := Ka1.out.lt
  have hbb : (R != R) = false := by simp
  go_wp2
  go_ret
  exact ⟨rfl, HB.out⟩

/-! ### THE ROW's STEP -/
abbrev laidL : List (String × DataW Unit) := [("unicode/utf8.acceptRanges", Rows.laid_unicode_utf8_acceptRanges), ("unicode/utf8.first", Rows.laid_unicode_utf8_first)]
theorem laidWorld_met (os : Os) (args : Array Value) : laidMetH Tryd.prog laidL ((World.laidAll Tryd.prog os laidL).forCall (fun _ _ => 0) ⟨#[], args, []⟩).memory :=
  laidMetH_of_parts (laidMet_laidAll _ (by kernel_rfl) (by kernel_rfl)) (by kernel_rfl)

set_option maxRecDepth 100000 in
theorem lifted (os : Os) (started : os.Started) (H : Type) (enc : TypeId × Value → H) :
    ReturnsInHanded {} Tryd.checked os 11 .any (fun w args => (Rows.fnExactSwapBelowSpec.pre enc Tryd.prog Tryd.f11 [] false w args ∧ laidMetH Tryd.prog laidL w) ∧ sizedMet enc Tryd.prog Tryd.f11 (OpenSpec.ofChange Rows.fnExactSwapBelowSpec) false w args) (Rows.fnExactSwapBelowSpec.post enc Tryd.prog Tryd.f11 false true false false) := by
  refine returnsInHanded_of_change_and (C := Tryd.checked) (X := fun w _ => laidMetH Tryd.prog laidL w) (fun _ _ _ hh h => h.of_heap hh) own started (by kernel_rfl) Tryd.func11
    (ChangeSpec.witness_shaped (enc := enc) (C := Tryd.checked) (os := os) (X := fun w _ => laidMetH Tryd.prog laidL w) false (World.laidAll Tryd.prog os laidL) #[.agg #[.string ByteArray.empty, .string ByteArray.empty, .bool false], .agg #[.string ByteArray.empty, .string ByteArray.empty, .bool false]] 8 rfl (World.shaped_of_ZipB (by kernel_rfl) (by kernel_rfl)) (by kernel_rfl) (by kernel_rfl) (by kernel_rfl) (laidWorld_met os _)) ?_
  intro W base args ds gs before hval0 hW _ _ hL _
  have hval : ∀ (j : Nat) t v, Tryd.f11.params[j]? = some t → args[j]? = some v → Value.okWide Tryd.prog W .any base t v := hval0
  have hW' := hW
  obtain ⟨p, q, hA0, hV, rfl, hfz, hnd⟩ := hW
  have hA : DataW.TrodAll enc Tryd.prog W 0 (fun _ => true) true Tryd.f11.params.toList args.toList ds p := hA0
  rw [Tryd.params11] at hA hval
  obtain ⟨v0, vs0, d0, ds0, p0, qq0, hargs, rfl, rfl, h0, r0⟩ := trodAll_cons hA
  obtain ⟨v1, vs1, d1, ds1, p1, qq1, rfl, rfl, rfl, h1, r1⟩ := trodAll_cons r0
  obtain ⟨rfl, rfl, rfl⟩ := trodAll_nil r1
  obtain rfl : args = #[v0, v1] := by cases args; simp_all
  obtain ⟨rfl, rfl⟩ := trodVars_none hV
  have k0 := h0
  have lt0 : ∀ x ∈ p0, x.block < W.heap.size := by obtain ⟨m, hm⟩ := k0; exact DataW.trod_lt m _ _ _ hm
  obtain ⟨xx0, yy0, zz0, u0, t0, s0, n0, rfl, rfl, rfl, g0, l0, b0⟩ := Go.Joins.open_agg3 Tryd.underlying28 (by kernel_rfl) (by kernel_rfl) (hval 0 28 v0 rfl rfl) h0
  obtain ⟨x0, e0, f0⟩ := open_str0 Tryd.underlying9 g0
  obtain ⟨y0, ee0, ff0⟩ := open_str0 Tryd.underlying9 l0
  obtain ⟨z0, eee0⟩ := open_bool0 Tryd.underlying4 b0
  subst e0 ee0 eee0
  have w0 : x0.size ≤ maxLen ∧ y0.size ≤ maxLen := ⟨f0, ff0⟩
  have k1 := h1
  have lt1 : ∀ x ∈ p1, x.block < W.heap.size := by obtain ⟨m, hm⟩ := k1; exact DataW.trod_lt m _ _ _ hm
  obtain ⟨xx1, yy1, zz1, u1, t1, s1, n1, rfl, rfl, rfl, g1, l1, b1⟩ := Go.Joins.open_agg3 Tryd.underlying28 (by kernel_rfl) (by kernel_rfl) (hval 1 28 v1 rfl rfl) h1
  obtain ⟨x1, e1, f1⟩ := open_str0 Tryd.underlying9 g1
  obtain ⟨y1, ee1, ff1⟩ := open_str0 Tryd.underlying9 l1
  obtain ⟨z1, eee1⟩ := open_bool0 Tryd.underlying4 b1
  subst e1 ee1 eee1
  have w1 : x1.size ≤ maxLen ∧ y1.size ≤ maxLen := ⟨f1, ff1⟩
  clear hA0 hval0
  refine (walk x0 y0 z0 x1 y1 z1 W trivial w0 w1).mono fun e W' ⟨he, bel⟩ => ?_
  subst he
  exact ⟨_, rfl, _, _, _, [], _, [], hW', trodAll_mk1 (shut_bool Tryd.underlying4 _), (trodAll_cons_mk (Below.trod laidOut (by kernel_rfl) (of_decide_eq_true (by kernel_rfl)) k0 bel lt0) (trodAll_cons_mk (Below.trod laidOut (by kernel_rfl) (of_decide_eq_true (by kernel_rfl)) k1 bel lt1) trodAll_mk0)), rfl, bel.frame _, fun h => by cases h⟩

theorem over : Rows.fnExactSwapBelowRow.holds Tryd.pinned (OpenSpec.ofChange Rows.fnExactSwapBelowSpec) :=
  OpenClaim.holds_of_wide 11 Tryd.f11 rfl rfl rfl rfl rfl rfl rfl ⟨rfl, rfl, rfl, rfl, rfl⟩ rfl rfl rfl rfl rfl (by kernel_rfl) Tryd.func11 (by kernel_rfl)
    (of_decide_eq_true (by kernel_rfl)) (by unfold Func.isWrapper; first | (rw [if_pos (by decide +kernel)]; kernel_rfl) | (rw [if_neg (by decide +kernel)]; exact ⟨rfl, rfl⟩))
    (fun os started H enc _ => lifted os started H enc)

theorem proved : Rows.FnExactSwapBelowCardSaid :=
  Claim7.holds_tied_plain_at .later [] [.data, .pinned] true _ true
    over (fun _ h => by cases h) (by kernel_rfl) (fun _ h => by cases h) fnExactSwapBelow_row_tie rfl ⟨rfl, rfl⟩ (by kernel_rfl) rfl
    (fun f fn hf hfn => by
      obtain rfl : f = 11 := Option.some.inj ((show Tryd.prog.funcNamed Rows.fnExactSwapBelowRow.func = some 11 by kernel_rfl).symm.trans hf) |>.symm
      obtain rfl : fn = Tryd.f11 := (Option.some.inj (Tryd.func11.symm.trans hfn)).symm
      exact ⟨by kernel_rfl, fun j t ht => by
        rw [Tryd.params11] at ht
        rcases j with _ | j
        · have h0 : t = 28 := by simpa using ht.symm
          subst h0
          exact (show Tryd.prog.wantsStandIn 28 = false by kernel_rfl)
        rcases j with _ | j
        · have h1 : t = 28 := by simpa using ht.symm
          subst h1
          exact (show Tryd.prog.wantsStandIn 28 = false by kernel_rfl)
        simp at ht⟩)
    (by kernel_rfl)
#print axioms proved
end Go.Proofs.YtdkhapfadcoclaaDoor.fnExactSwapBelow

