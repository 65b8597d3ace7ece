/-
  FnExactSwapAct: for every input the law returns true and leaves its arguments as they were. No condition.
-/
import Derived.Test.YtdkhapfadcoclaaDoorRows
import Derived.Test.YtdkhapfadcoclaaDoorCards
import Derived.Test.YtdkhapfadcoclaaDoorTie
import Derived.Test.YtdkhapfadcoclaaDoorSo6
import Derived.WalkKit
import Derived.Deep.QuietTactic
import Derived.BigQuiet
import Derived.Outline
import Derived.ProofKit
import Derived.OpenShut
import Derived.ShutString
import Derived.ChangeOld
import Derived.Below
import Derived.ChangeSame
import Derived.ChangeVars
import Derived.JoinedOf
import Derived.RowKit
import Derived.RowKitTokens
import Derived.LaidLaws
import Derived.LaidHandle
import Derived.Stop.Joined
import Derived.SevenTiedAt
import Derived.Lay
namespace Go.Proofs.YtdkhapfadcoclaaDoor.fnExactSwapAct
set_option maxRecDepth 100000
open Go.ChangeShapes Go.WideShapes Go.ChangeAt Go.RowKit
open Go.ChangeMaps (open_string shut_string)
set_option linter.unusedVariables false

theorem own : ownKnob Tryd.prog.godebug = none := by kernel_rfl
theorem laidOut : laidOutB Tryd.prog = true := by kernel_rfl

def IsRow (k : IntKind) (w : World) (a : Option Addr) (len cap : Nat) (zs : List Int) : Prop :=
  (a = none ∧ len = 0 ∧ cap = 0 ∧ zs = []) ∨
  ∃ x, a = some x ∧ len ≤ cap ∧ cap ≤ maxLen ∧ zs.length = cap ∧ (∀ i, i < zs.length → w.cell? (x.add i) = some (.int k (zs.getD i 0))) ∧ ∀ n ∈ zs, (Lit.int k n).wf = true



set_option maxHeartbeats 3000000 in
theorem walk (x0 y0 : ByteArray) (z0 : Bool) (a1 : ByteArray) (w : World) (het : True) (w0 : x0.size ≤ maxLen ∧ y0.size ≤ maxLen) (w1 : a1.size ≤ maxLen) :
    Calls Tryd.prog 10 #[.agg #[.string x0, .string y0, .bool z0], .string a1] w fun e w' => e = .returned (.bool true) ∧ Below w.heap.size w w' := by
  have HET := Lib.hid het
  clear het
  obtain ⟨hx0, hy0⟩ := w0
  obtain ⟨f0, rfl⟩ : ∃ l, x0 = bs l := ⟨_, (bs_of _).symm⟩
  obtain ⟨t0, rfl⟩ : ∃ l, y0 = bs l := ⟨_, (bs_of _).symm⟩
  obtain ⟨g1, rfl⟩ : ∃ l, a1 = bs l := ⟨_, (bs_of _).symm⟩
  have hg1 := bs_size g1
  by_cases hbig : 1048576 < (bs g1).size
  · have hsi : (1048576 : Int) < ((bs g1).size : Int) := by omega
    clear hg1
    generalize bs g1 = gb at *
    go_enter Tryd.func10, Tryd.ntmps10
    go_wp2
    go_ret
    exact ⟨rfl, (Below.refl _ _).alloc (Nat.le_refl _) _⟩
  have hsi : ¬ (1048576 : Int) < ((bs g1).size : Int) := by omega
  have hl1 : g1.length ≤ 1048576 := by omega
  clear hg1 hbig
  have HL0 := Lib.hid (And.intro (bs_size f0) (bs_size t0))
  have HB := Lib.hid (Below.refl w.heap.size w)
  have HZ0 := Lib.hid (fun (r : Int) (h0 : 0 ≤ r) (h1 : r ≤ 1048576) (W : World) => szSwap_any (bs f0) (bs t0) z0 r h0 h1 hx0 hy0 W)
  clear hx0 hy0
  go_enter Tryd.func10, Tryd.ntmps10
  go_wp2_with fail
  refine (HZ0.out 1048576 (by omega) (by omega) _).mono ?_
  rintro e v1 ⟨r0, rfl, hr0_0, hr1_0, hr2_0, hb1⟩
  have HQ0 := Lib.hid hr2_0
  clear hr2_0 HZ0
  have Ka0 := Lib.hid (((Blk.new w 28 #[.string (bs f0), .string (bs t0), .bool z0])).on hb1)
  have HB := Lib.hid ((bel_al HB.out (.cells #[.string (bs f0), .string (bs t0), .bool z0] 28)).trans (hb1.mono (bel_al HB.out (.cells #[.string (bs f0), .string (bs t0), .bool z0] 28)).size))
  clear hb1
  have ca00 : v1.cell? ⟨w.heap.size, 0, none⟩ = some (.string (bs f0)) := Ka0.out.cell 0
  have ca01 : v1.cell? ⟨w.heap.size, 1, none⟩ = some (.string (bs t0)) := Ka0.out.cell 1
  have ca02 : v1.cell? ⟨w.heap.size, 2, none⟩ = some (.bool z0) := Ka0.out.cell 2
  have la0 : w.heap.size < v1.heap.size := Ka0.out.lt
  by_cases hr0 : r0 < 0
  · go_wp2
    go_ret
    exact ⟨rfl, HB.out⟩
  have hq0 : f0.length ≤ 1048576 ∧ t0.length ≤ 1048576 := by rw [← HL0.out.1, ← HL0.out.2]; exact HQ0.out (by omega)
  obtain ⟨hf0, ht0⟩ := hq0
  clear HQ0 HL0
  have HS := Lib.hid (fun W => specAct_any f0 t0 z0 g1 (by omega) (by omega) (by omega) W)
  have HI := Lib.hid (fun W => implAct_any f0 t0 z0 g1 (by omega) (by omega) W)
  generalize movS ⟨f0, t0, z0⟩ g1 = R at *
  obtain ⟨ry, rb⟩ := R
  dsimp only at HS HI
  generalize bs ry = rx at *
  clear hf0 ht0 hl1
  generalize bs f0 = x0 at *
  generalize bs t0 = y0 at *
  generalize bs g1 = gb at *
  have HT0 := Lib.hid (fun W => toSwap_any x0 y0 z0 W)
  go_wp2_with fail
  refine (HT0.out _).mono ?_
  rintro e v2 ⟨rfl, hb2⟩
  clear ca00 ca01 ca02 la0
  have Ka0 := Lib.hid ((Ka0.out).on hb2)
  have HB := Lib.hid (HB.out.trans (hb2.mono HB.out.size))
  clear hb2
  have ca00 : v2.cell? ⟨w.heap.size, 0, none⟩ = some (.string x0) := Ka0.out.cell 0
  have ca01 : v2.cell? ⟨w.heap.size, 1, none⟩ = some (.string y0) := Ka0.out.cell 1
  have ca02 : v2.cell? ⟨w.heap.size, 2, none⟩ = some (.bool z0) := Ka0.out.cell 2
  have la0 : w.heap.size < v2.heap.size := Ka0.out.lt
  go_wp2_with fail
  refine (HS.out _).mono ?_
  rintro e v3 ⟨rfl, hb3⟩
  clear ca00 ca01 ca02 la0
  have Ka0 := Lib.hid ((Ka0.out).on hb3)
  have HB := Lib.hid (HB.out.trans (hb3.mono HB.out.size))
  clear hb3
  have ca00 : v3.cell? ⟨w.heap.size, 0, none⟩ = some (.string x0) := Ka0.out.cell 0
  have ca01 : v3.cell? ⟨w.heap.size, 1, none⟩ = some (.string y0) := Ka0.out.cell 1
  have ca02 : v3.cell? ⟨w.heap.size, 2, none⟩ = some (.bool z0) := Ka0.out.cell 2
  have la0 : w.heap.size < v3.heap.size := Ka0.out.lt
  go_wp2_with fail
  refine (HT0.out _).mono ?_
  rintro e v4 ⟨rfl, hb4⟩
  clear ca00 ca01 ca02 la0
  have Ka0 := Lib.hid ((Ka0.out).on hb4)
  have HB := Lib.hid (HB.out.trans (hb4.mono HB.out.size))
  clear hb4
  have ca00 : v4.cell? ⟨w.heap.size, 0, none⟩ = some (.string x0) := Ka0.out.cell 0
  have ca01 : v4.cell? ⟨w.heap.size, 1, none⟩ = some (.string y0) := Ka0.out.cell 1
  have ca02 : v4.cell? ⟨w.heap.size, 2, none⟩ = some (.bool z0) := Ka0.out.cell 2
  have la0 : w.heap.size < v4.heap.size := Ka0.out.lt
  go_wp2_with fail
  refine (HI.out _).mono ?_
  rintro e v5 ⟨rfl, hb5⟩
  clear ca00 ca01 ca02 la0
  have Ka0 := Lib.hid ((Ka0.out).on hb5)
  have HB := Lib.hid (HB.out.trans (hb5.mono HB.out.size))
  clear hb5
  have ca00 : v5.cell? ⟨w.heap.size, 0, none⟩ = some (.string x0) := Ka0.out.cell 0
  have ca01 : v5.cell? ⟨w.heap.size, 1, none⟩ = some (.string y0) := Ka0.out.cell 1
  have ca02 : v5.cell? ⟨w.heap.size, 2, none⟩ = some (.bool z0) := Ka0.out.cell 2
  have la0 : w.heap.size < v5.heap.size := Ka0.out.lt
  have hbb : (rb != rb) = false := by simp
  have hbs : (rx.toList != rx.toList) = false := by simp
  go_wp2
  go_ret
  exact ⟨rfl, HB.out⟩

/-! ### THE ROW's STEP -/
abbrev laidL : List (String × DataW Unit) := [("unicode/utf8.acceptRanges", Rows.laid_unicode_utf8_acceptRanges), ("unicode/utf8.first", Rows.laid_unicode_utf8_first)]
theorem laidWorld_met (os : Os) (args : Array Value) : laidMetH Tryd.prog laidL ((World.laidAll Tryd.prog os laidL).forCall (fun _ _ => 0) ⟨#[], args, []⟩).memory :=
  laidMetH_of_parts (laidMet_laidAll _ (by kernel_rfl) (by kernel_rfl)) (by kernel_rfl)

set_option maxRecDepth 100000 in
theorem lifted (os : Os) (started : os.Started) (H : Type) (enc : TypeId × Value → H) :
    ReturnsInHanded {} Tryd.checked os 10 .any (fun w args => (Rows.fnExactSwapActSpec.pre enc Tryd.prog Tryd.f10 [] false w args ∧ laidMetH Tryd.prog laidL w) ∧ sizedMet enc Tryd.prog Tryd.f10 (OpenSpec.ofChange Rows.fnExactSwapActSpec) false w args) (Rows.fnExactSwapActSpec.post enc Tryd.prog Tryd.f10 false true false false) := by
  refine returnsInHanded_of_change_and (C := Tryd.checked) (X := fun w _ => laidMetH Tryd.prog laidL w) (fun _ _ _ hh h => h.of_heap hh) own started (by kernel_rfl) Tryd.func10
    (ChangeSpec.witness_shaped (enc := enc) (C := Tryd.checked) (os := os) (X := fun w _ => laidMetH Tryd.prog laidL w) false (World.laidAll Tryd.prog os laidL) #[.agg #[.string ByteArray.empty, .string ByteArray.empty, .bool false], .string ByteArray.empty] 8 rfl (World.shaped_of_ZipB (by kernel_rfl) (by kernel_rfl)) (by kernel_rfl) (by kernel_rfl) (by kernel_rfl) (laidWorld_met os _)) ?_
  intro W base args ds gs before hval0 hW _ _ hL _
  have hval : ∀ (j : Nat) t v, Tryd.f10.params[j]? = some t → args[j]? = some v → Value.okWide Tryd.prog W .any base t v := hval0
  have hW' := hW
  obtain ⟨p, q, hA0, hV, rfl, hfz, hnd⟩ := hW
  have hA : DataW.TrodAll enc Tryd.prog W 0 (fun _ => true) true Tryd.f10.params.toList args.toList ds p := hA0
  rw [Tryd.params10] at hA hval
  obtain ⟨v0, vs0, d0, ds0, p0, qq0, hargs, rfl, rfl, h0, r0⟩ := trodAll_cons hA
  obtain ⟨v1, vs1, d1, ds1, p1, qq1, rfl, rfl, rfl, h1, r1⟩ := trodAll_cons r0
  obtain ⟨rfl, rfl, rfl⟩ := trodAll_nil r1
  obtain rfl : args = #[v0, v1] := by cases args; simp_all
  obtain ⟨rfl, rfl⟩ := trodVars_none hV
  have k0 := h0
  have lt0 : ∀ x ∈ p0, x.block < W.heap.size := by obtain ⟨m, hm⟩ := k0; exact DataW.trod_lt m _ _ _ hm
  obtain ⟨xx0, yy0, zz0, u0, t0, s0, n0, rfl, rfl, rfl, g0, l0, b0⟩ := Go.Joins.open_agg3 Tryd.underlying28 (by kernel_rfl) (by kernel_rfl) (hval 0 28 v0 rfl rfl) h0
  obtain ⟨x0, e0, f0⟩ := open_str0 Tryd.underlying9 g0
  obtain ⟨y0, ee0, ff0⟩ := open_str0 Tryd.underlying9 l0
  obtain ⟨z0, eee0⟩ := open_bool0 Tryd.underlying4 b0
  subst e0 ee0 eee0
  have w0 : x0.size ≤ maxLen ∧ y0.size ≤ maxLen := ⟨f0, ff0⟩
  obtain ⟨a1, rfl, rfl, rfl, w1⟩ := open_string Tryd.underlying9 (hval 1 9 v1 rfl rfl) h1
  clear hA0 hval0
  refine (walk x0 y0 z0 a1 W trivial w0 w1).mono fun e W' ⟨he, bel⟩ => ?_
  subst he
  exact ⟨_, rfl, _, _, _, [], _, [], hW', trodAll_mk1 (shut_bool Tryd.underlying4 _), (trodAll_cons_mk (Below.trod laidOut (by kernel_rfl) (of_decide_eq_true (by kernel_rfl)) k0 bel lt0) (trodAll_cons_mk (shut_string Tryd.underlying9 w1) trodAll_mk0)), rfl, bel.frame _, fun h => by cases h⟩

theorem over : Rows.fnExactSwapActRow.holds Tryd.pinned (OpenSpec.ofChange Rows.fnExactSwapActSpec) :=
  OpenClaim.holds_of_wide 10 Tryd.f10 rfl rfl rfl rfl rfl rfl rfl ⟨rfl, rfl, rfl, rfl, rfl⟩ rfl rfl rfl rfl rfl (by kernel_rfl) Tryd.func10 (by kernel_rfl)
    (of_decide_eq_true (by kernel_rfl)) (by unfold Func.isWrapper; first | (rw [if_pos (by decide +kernel)]; kernel_rfl) | (rw [if_neg (by decide +kernel)]; exact ⟨rfl, rfl⟩))
    (fun os started H enc _ => lifted os started H enc)

theorem proved : Rows.FnExactSwapActCardSaid :=
  Claim7.holds_tied_plain_at .later [] [.data, .pinned] true _ true
    over (fun _ h => by cases h) (by kernel_rfl) (fun _ h => by cases h) fnExactSwapAct_row_tie rfl ⟨rfl, rfl⟩ (by kernel_rfl) rfl
    (fun f fn hf hfn => by
      obtain rfl : f = 10 := Option.some.inj ((show Tryd.prog.funcNamed Rows.fnExactSwapActRow.func = some 10 by kernel_rfl).symm.trans hf) |>.symm
      obtain rfl : fn = Tryd.f10 := (Option.some.inj (Tryd.func10.symm.trans hfn)).symm
      exact ⟨by kernel_rfl, fun j t ht => by
        rw [Tryd.params10] at ht
        rcases j with _ | j
        · have h0 : t = 28 := by simpa using ht.symm
          subst h0
          exact (show Tryd.prog.wantsStandIn 28 = false by kernel_rfl)
        rcases j with _ | j
        · have h1 : t = 9 := by simpa using ht.symm
          subst h1
          exact (show Tryd.prog.wantsStandIn 9 = false by kernel_rfl)
        simp at ht⟩)
    (by kernel_rfl)
#print axioms proved
end Go.Proofs.YtdkhapfadcoclaaDoor.fnExactSwapAct

