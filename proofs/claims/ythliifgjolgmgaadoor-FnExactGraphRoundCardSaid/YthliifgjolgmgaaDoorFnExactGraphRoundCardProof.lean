/-
  FnExactGraphRound: for every input the law returns true and leaves its arguments as they were. No condition.
-/
import Derived.Test.YthliifgjolgmgaaDoorRows
import Derived.Test.YthliifgjolgmgaaDoorCards
import Derived.Test.YthliifgjolgmgaaDoorTie
import Derived.Test.YthliifgjolgmgaaDoorHl
import Derived.Test.YthliifgjolgmgaaDoorGt
import Derived.Test.YthliifgjolgmgaaDoorLg
import Derived.WalkKit
import Derived.Deep.QuietTactic
import Derived.BigQuiet
import Derived.Outline
import Derived.ProofKit
import Derived.OpenShut
import Derived.ShutString
import Derived.ChangeOld
import Derived.Below
import Derived.ChangeSame
import Derived.ChangeVars
import Derived.JoinedOf
import Derived.RowKit
import Derived.RowKitTokens
import Derived.LaidLaws
import Derived.LaidHandle
import Derived.Stop.Joined
import Derived.SevenTiedAt
import Derived.Lay
namespace Go.Proofs.YthliifgjolgmgaaDoor.fnExactGraphRound
set_option maxRecDepth 100000
open Go.ChangeShapes Go.WideShapes Go.ChangeAt Go.RowKit
open Go.ChangeMaps (open_string shut_string)
set_option linter.unusedVariables false

theorem own : ownKnob Tryd.prog.godebug = none := by kernel_rfl
theorem laidOut : laidOutB Tryd.prog = true := by kernel_rfl

def IsRow (k : IntKind) (w : World) (a : Option Addr) (len cap : Nat) (zs : List Int) : Prop :=
  (a = none ∧ len = 0 ∧ cap = 0 ∧ zs = []) ∨
  ∃ x, a = some x ∧ len ≤ cap ∧ cap ≤ maxLen ∧ zs.length = cap ∧ (∀ i, i < zs.length → w.cell? (x.add i) = some (.int k (zs.getD i 0))) ∧ ∀ n ∈ zs, (Lit.int k n).wf = true



set_option maxHeartbeats 4000000 in
theorem walk (gk0 : Int) (ga0 : Option Addr) (gn0 gc0 : Nat) (gz0 : List Int) (gb0 : Option Addr) (gm0 gd0 : Nat) (gy0 : List Int) (a1 : ByteArray) (w : World) (het : True) (w0 : IsGraph w gk0 ga0 gn0 gz0 gb0 gm0 gy0) (w1 : a1.size ≤ maxLen) :
    Calls Tryd.prog 4 #[.agg #[.int .i64 gk0, .slice ga0 gn0 gc0, .slice gb0 gm0 gd0], .string a1] w fun e w' => e = .returned (.bool true) ∧ Below w.heap.size w w' := by
  have HET := Lib.hid het
  clear het
  obtain ⟨hkw, hA, hB, hlA, hlB, hwA, hwB⟩ := w0
  have HRR : Hid (∀ W : World, Below w.heap.size w W → RI W ga0 gn0 gz0 ∧ RI W gb0 gm0 gy0) := fun W hW => ⟨hA.below hW, hB.below hW⟩
  have hB0 : Below w.heap.size w (w.alloc (.cells #[.int .i64 gk0, .slice ga0 gn0 gc0, .slice gb0 gm0 gd0] 34)) := (Below.refl _ w).alloc (Nat.le_refl _) _
  have hA0 : Blk (w.alloc (.cells #[.int .i64 gk0, .slice ga0 gn0 gc0, .slice gb0 gm0 gd0] 34)) w.heap.size 34 #[.int .i64 gk0, .slice ga0 gn0 gc0, .slice gb0 gm0 gd0] := Blk.new w _ _
  have HSZ := Lib.hid (szGraph_any gk0 ga0 gb0 gn0 gm0 gc0 gd0 1048576 (w.alloc (.cells #[.int .i64 gk0, .slice ga0 gn0 gc0, .slice gb0 gm0 gd0] 34)) (by omega) (by omega) hlA hlB)
  have HB0 := Lib.hid hB0
  have HA0 := Lib.hid hA0
  clear hkw hA hB hlA hlB hwA hwB hB0 hA0
  by_cases hbig : a1.size > 1048576
  · have hbi : (a1.size : Int) > 1048576 := by omega
    clear HSZ w1
    go_enter Tryd.func4, Tryd.ntmps4
    go_wp2
    go_ret
    exact ⟨rfl, HB0.out⟩
  have hbi : ¬ (a1.size : Int) > 1048576 := by omega
  have hsz1 : a1.size ≤ 1048576 := by omega
  clear hbig w1
  go_enter Tryd.func4, Tryd.ntmps4
  go_wp2_with fail
  refine HSZ.out.mono ?_
  rintro e w1 ⟨r, rfl, hr1, hr2, hr3, hb⟩
  have HA1 := Lib.hid (HA0.out.below hb HA0.out.lt)
  have HB1 := Lib.hid (HB0.out.trans (hb.mono HB0.out.size))
  have HSM := Lib.hid hr3
  clear hb hr3 HSZ HA0 HB0
  by_cases hneg : r < 0
  · go_wp2
    go_ret
    exact ⟨rfl, HB1.out⟩
  · obtain ⟨hs1, hs2⟩ := HSM.out (by omega)
    have hn : gn0 ≤ 1048576 := by omega
    have hm : gm0 ≤ 1048576 := by omega
    clear hs1 hs2 HSM
    have hsw : a1.size ≤ 1048576 := hsz1
    have HTO : Hid (∀ W : World, Below w.heap.size w W → Calls Tryd.prog 17 #[.agg #[.int .i64 gk0, .slice ga0 gn0 gc0, .slice gb0 gm0 gd0]] W fun e w' => ∃ A B : Addr, e = .returned (.agg #[.int .i64 gk0, .slice (some A) gn0 gn0, .slice (some B) gm0 gm0]) ∧ RI w' (some A) gn0 gz0 ∧ RI w' (some B) gm0 gy0 ∧ Below W.heap.size W w') := fun W hW => by
      refine (toGraph_any gk0 ga0 gb0 gn0 gm0 gc0 gd0 gz0 gy0 W (HRR.out W hW).1 (HRR.out W hW).2 hn hm).mono ?_
      rintro e w' ⟨A, B, h1, h2, h3, _, h5⟩
      exact ⟨A, B, h1, RI.of_own h2, RI.of_own h3, h5⟩
    have ca0 : w1.cell? ⟨w.heap.size, 0, none⟩ = some (.int .i64 gk0) := HA1.out.cell 0
    have ca1 : w1.cell? ⟨w.heap.size, 1, none⟩ = some (.slice ga0 gn0 gc0) := HA1.out.cell 1
    have ca2 : w1.cell? ⟨w.heap.size, 2, none⟩ = some (.slice gb0 gm0 gd0) := HA1.out.cell 2
    go_wp2_with fail
    refine (HTO.out _ HB1.out).mono ?_
    rintro e w2 ⟨A1, B1, rfl, ri1, rj1, hb⟩
    have HA2 := Lib.hid (HA1.out.below hb HA1.out.lt)
    have HB2 := Lib.hid (HB1.out.trans (hb.mono HB1.out.size))
    have HSP := Lib.hid (specRound5_any gk0 (some A1) (some B1) gn0 gm0 gn0 gm0 gz0 gy0 a1 w2 ri1 rj1 hn hm hsw)
    clear hb ri1 rj1 HA1 HB1 ca0 ca1 ca2
    go_wp2_with fail
    refine HSP.out.mono ?_
    rintro e w3 ⟨s1, rfl, hs1, hb⟩
    have HA3 := Lib.hid (HA2.out.below hb HA2.out.lt)
    have HB3 := Lib.hid (HB2.out.trans (hb.mono HB2.out.size))
    have HS1 := Lib.hid hs1
    have ca0 : w3.cell? ⟨w.heap.size, 0, none⟩ = some (.int .i64 gk0) := HA3.out.cell 0
    have ca1 : w3.cell? ⟨w.heap.size, 1, none⟩ = some (.slice ga0 gn0 gc0) := HA3.out.cell 1
    have ca2 : w3.cell? ⟨w.heap.size, 2, none⟩ = some (.slice gb0 gm0 gd0) := HA3.out.cell 2
    clear hb hs1 HA2 HB2 HSP
    go_wp2_with fail
    refine (HTO.out _ HB3.out).mono ?_
    rintro e w4 ⟨A2, B2, rfl, ri2, rj2, hb⟩
    have hA4 := HA3.out.below hb HA3.out.lt
    have hB4 := HB3.out.trans (hb.mono HB3.out.size)
    have hA5 := hA4.alloc (.cells #[.int .i64 gk0, .slice (some A2) gn0 gn0, .slice (some B2) gm0 gm0] 26)
    have hB5 := hB4.alloc hB4.size (.cells #[.int .i64 gk0, .slice (some A2) gn0 gn0, .slice (some B2) gm0 gm0] 26)
    have hX5 := Blk.new w4 26 #[.int .i64 gk0, .slice (some A2) gn0 gn0, .slice (some B2) gm0 gm0]
    have hb5 : Below w4.heap.size w4 (w4.alloc (.cells #[.int .i64 gk0, .slice (some A2) gn0 gn0, .slice (some B2) gm0 gm0] 26)) := (Below.refl _ _).alloc (Nat.le_refl _) _
    have HI := Lib.hid (implRound5_any gk0 (some A2) (some B2) gn0 gm0 gn0 gm0 gz0 gy0 a1 _ (ri2.below hb5) (rj2.below hb5) hn hm hsw)
    have HR2 : Hid (∀ W : World, Below w4.heap.size (w4.alloc (.cells #[.int .i64 gk0, .slice (some A2) gn0 gn0, .slice (some B2) gm0 gm0] 26)) W → RI W (some A2) gn0 gz0 ∧ RI W (some B2) gm0 gy0) := fun W hW => ⟨ri2.below (hb5.trans hW), rj2.below (hb5.trans hW)⟩
    have HA5 := Lib.hid hA5
    have HB5 := Lib.hid hB5
    have HX5 := Lib.hid hX5
    have HL5 : Hid (w4.heap.size ≤ (w4.alloc (.cells #[.int .i64 gk0, .slice (some A2) gn0 gn0, .slice (some B2) gm0 gm0] 26)).heap.size) := hb5.size
    clear hb ri2 rj2 hA4 hB4 hA5 hB5 hX5 hb5 HA3 HB3 ca0 ca1 ca2
    go_wp2_with fail
    refine HI.out.mono ?_
    rintro e w6 ⟨s2, rfl, hs2, hb⟩
    obtain rfl : s1 = s2 := b2 HS1.out hs2
    have HA6 := Lib.hid (HA5.out.below hb HA5.out.lt)
    have HB6 := Lib.hid (HB5.out.trans (hb.mono HB5.out.size))
    have HX6 := Lib.hid (HX5.out.below hb HX5.out.lt)
    have HR6 : Hid (∀ W : World, Below w6.heap.size w6 W → RI W (some A2) gn0 gz0 ∧ RI W (some B2) gm0 gy0) := fun W hW => HR2.out W ((hb.mono HL5.out).trans (hW.mono (Nat.le_trans HL5.out hb.size)))
    have hbne : (s1 != s1) = false := by simp
    have ca0 : w6.cell? ⟨w.heap.size, 0, none⟩ = some (.int .i64 gk0) := HA6.out.cell 0
    have ca1 : w6.cell? ⟨w.heap.size, 1, none⟩ = some (.slice ga0 gn0 gc0) := HA6.out.cell 1
    have ca2 : w6.cell? ⟨w.heap.size, 2, none⟩ = some (.slice gb0 gm0 gd0) := HA6.out.cell 2
    have x0 : w6.cell? ⟨w4.heap.size, 0, none⟩ = some (.int .i64 gk0) := HX6.out.cell 0
    have x1 : w6.cell? ⟨w4.heap.size, 1, none⟩ = some (.slice (some A2) gn0 gn0) := HX6.out.cell 1
    have x2 : w6.cell? ⟨w4.heap.size, 2, none⟩ = some (.slice (some B2) gm0 gm0) := HX6.out.cell 2
    have HBD : Hid (Below w.heap.size w w6.drew) := HB6.out.drew
    have HXD : Hid (Blk w6.drew w4.heap.size 26 #[.int .i64 gk0, .slice (some A2) gn0 gn0, .slice (some B2) gm0 gm0]) := HX6.out.drew
    clear hb hs2 HI HA5 HB5 HX5 HR2 HL5 HS1
    go_wp2
    go_region_law (first
      | (go_simp
         go_at_call 17
         refine (HTO.out _ HBD.out).mono ?_
         rintro e w7 ⟨A3, B3, rfl, ri3, rj3, hb7⟩
         have x0 : w7.cell? ⟨w4.heap.size, 0, none⟩ = some (.int .i64 gk0) := (HXD.out.below hb7 HXD.out.lt).cell 0
         have x1 : w7.cell? ⟨w4.heap.size, 1, none⟩ = some (.slice (some A2) gn0 gn0) := (HXD.out.below hb7 HXD.out.lt).cell 1
         have x2 : w7.cell? ⟨w4.heap.size, 2, none⟩ = some (.slice (some B2) gm0 gm0) := (HXD.out.below hb7 HXD.out.lt).cell 2
         have HB7 := Lib.hid (HBD.out.trans (hb7.mono HBD.out.size))
         have HR7 := Lib.hid (HR6.out w7 ((Below.refl _ _).drew.trans hb7)))
      | (go_simp
         go_at_call 10
         refine (eqGraph_any gk0 gk0 (some A2) (some B2) (some A3) (some B3) gn0 gm0 gn0 gm0 gn0 gm0 gn0 gm0 gz0 gy0 gz0 gy0 _ HR7.out.1 HR7.out.2 ri3 rj3 hn hm).mono ?_
         rw [decide_eq_true (rfl : gk0 = gk0), decide_eq_true (rfl : gz0 = gz0), decide_eq_true (rfl : gy0 = gy0)]
         rintro e w8 ⟨rfl, hb8⟩
         have HB8 := Lib.hid (HB7.out.trans (hb8.mono HB7.out.size))))
    all_goals
      clear hb7 hb8 ri3 rj3
      go_wp2
      go_ret
      exact ⟨rfl, HB8.out⟩

/-! ### THE ROW's STEP -/
abbrev laidL : List (String × DataW Unit) := [("unicode/utf8.acceptRanges", Rows.laid_unicode_utf8_acceptRanges), ("unicode/utf8.first", Rows.laid_unicode_utf8_first)]
theorem laidWorld_met (os : Os) (args : Array Value) : laidMetH Tryd.prog laidL ((World.laidAll Tryd.prog os laidL).forCall (fun _ _ => 0) ⟨#[], args, []⟩).memory :=
  laidMetH_of_parts (laidMet_laidAll _ (by kernel_rfl) (by kernel_rfl)) (by kernel_rfl)

set_option maxRecDepth 100000 in
theorem lifted (os : Os) (started : os.Started) (H : Type) (enc : TypeId × Value → H) :
    ReturnsInHanded {} Tryd.checked os 4 .any (fun w args => (Rows.fnExactGraphRoundSpec.pre enc Tryd.prog Tryd.f4 [] false w args ∧ laidMetH Tryd.prog laidL w) ∧ sizedMet enc Tryd.prog Tryd.f4 (OpenSpec.ofChange Rows.fnExactGraphRoundSpec) false w args) (Rows.fnExactGraphRoundSpec.post enc Tryd.prog Tryd.f4 false true false false) := by
  refine returnsInHanded_of_change_and (C := Tryd.checked) (X := fun w _ => laidMetH Tryd.prog laidL w) (fun _ _ _ hh h => h.of_heap hh) own started (by kernel_rfl) Tryd.func4
    (ChangeSpec.witness_shaped (enc := enc) (C := Tryd.checked) (os := os) (X := fun w _ => laidMetH Tryd.prog laidL w) false (World.laidAll Tryd.prog os laidL) #[.agg #[.int .i64 0, .slice none 0 0, .slice none 0 0], .string ByteArray.empty] 8 rfl (World.shaped_of_ZipB (by kernel_rfl) (by kernel_rfl)) (by kernel_rfl) (by kernel_rfl) (by kernel_rfl) (laidWorld_met os _)) ?_
  intro W base args ds gs before hval0 hW _ _ hL _
  have hval : ∀ (j : Nat) t v, Tryd.f4.params[j]? = some t → args[j]? = some v → Value.okWide Tryd.prog W .any base t v := hval0
  have hW' := hW
  obtain ⟨p, q, hA0, hV, rfl, hfz, hnd⟩ := hW
  have hA : DataW.TrodAll enc Tryd.prog W 0 (fun _ => true) true Tryd.f4.params.toList args.toList ds p := hA0
  rw [Tryd.params4] at hA hval
  obtain ⟨v0, vs0, d0, ds0, p0, qq0, hargs, rfl, rfl, h0, r0⟩ := trodAll_cons hA
  obtain ⟨v1, vs1, d1, ds1, p1, qq1, rfl, rfl, rfl, h1, r1⟩ := trodAll_cons r0
  obtain ⟨rfl, rfl, rfl⟩ := trodAll_nil r1
  obtain rfl : args = #[v0, v1] := by cases args; simp_all
  obtain ⟨rfl, rfl⟩ := trodVars_none hV
  have k0 := h0
  have lt0 : ∀ x ∈ p0, x.block < W.heap.size := by obtain ⟨m, hm⟩ := k0; exact DataW.trod_lt m _ _ _ hm
  obtain ⟨xx0, yy0, zz0, u0, t0, s0, n0, rfl, rfl, rfl, g0, l0, b0⟩ := Go.Joins.open_agg3 Tryd.underlying34 (by kernel_rfl) (by kernel_rfl) (hval 0 34 v0 rfl rfl) h0
  obtain ⟨gk0, e0, f0⟩ := open_int0 Tryd.underlying3 g0
  obtain ⟨ga0, gn0, gc0, gz0, ee0, ra0, la0, wa0⟩ := open_ints0 Tryd.underlying24 Tryd.underlying3 (by kernel_rfl) l0
  obtain ⟨gb0, gm0, gd0, gy0, eee0, rb0, lb0, wb0⟩ := open_ints0 Tryd.underlying24 Tryd.underlying3 (by kernel_rfl) b0
  subst e0 ee0 eee0
  have w0 : IsGraph W gk0 ga0 gn0 gz0 gb0 gm0 gy0 := ⟨f0, ra0, rb0, la0, lb0, wa0, wb0⟩
  obtain ⟨a1, rfl, rfl, rfl, w1⟩ := open_string Tryd.underlying9 (hval 1 9 v1 rfl rfl) h1
  clear hA0 hval0
  refine (walk gk0 ga0 gn0 gc0 gz0 gb0 gm0 gd0 gy0 a1 W trivial w0 w1).mono fun e W' ⟨he, bel⟩ => ?_
  subst he
  exact ⟨_, rfl, _, _, _, [], _, [], hW', trodAll_mk1 (shut_bool Tryd.underlying4 _), (trodAll_cons_mk (Below.trod laidOut (by kernel_rfl) (of_decide_eq_true (by kernel_rfl)) k0 bel lt0) (trodAll_cons_mk (shut_string Tryd.underlying9 w1) trodAll_mk0)), rfl, bel.frame _, fun h => by cases h⟩

theorem over : Rows.fnExactGraphRoundRow.holds Tryd.pinned (OpenSpec.ofChange Rows.fnExactGraphRoundSpec) :=
  OpenClaim.holds_of_wide 4 Tryd.f4 rfl rfl rfl rfl rfl rfl rfl ⟨rfl, rfl, rfl, rfl, rfl⟩ rfl rfl rfl rfl rfl (by kernel_rfl) Tryd.func4 (by kernel_rfl)
    (of_decide_eq_true (by kernel_rfl)) (by unfold Func.isWrapper; first | (rw [if_pos (by decide +kernel)]; kernel_rfl) | (rw [if_neg (by decide +kernel)]; exact ⟨rfl, rfl⟩))
    (fun os started H enc _ => lifted os started H enc)

theorem proved : Rows.FnExactGraphRoundCardSaid :=
  Claim7.holds_tied_plain_at .later [] [.data, .pinned] true _ false
    over (fun _ h => by cases h) (by kernel_rfl) (fun _ h => by cases h) fnExactGraphRound_row_tie rfl ⟨rfl, rfl⟩ (by kernel_rfl) rfl
    (fun f fn hf hfn => by
      obtain rfl : f = 4 := Option.some.inj ((show Tryd.prog.funcNamed Rows.fnExactGraphRoundRow.func = some 4 by kernel_rfl).symm.trans hf) |>.symm
      obtain rfl : fn = Tryd.f4 := (Option.some.inj (Tryd.func4.symm.trans hfn)).symm
      exact ⟨by kernel_rfl, fun j t ht => by
        rw [Tryd.params4] at ht
        rcases j with _ | j
        · have h0 : t = 34 := by simpa using ht.symm
          subst h0
          exact (show Tryd.prog.wantsStandIn 34 = false by kernel_rfl)
        rcases j with _ | j
        · have h1 : t = 9 := by simpa using ht.symm
          subst h1
          exact (show Tryd.prog.wantsStandIn 9 = false by kernel_rfl)
        simp at ht⟩)
    (by kernel_rfl)
#print axioms proved
end Go.Proofs.YthliifgjolgmgaaDoor.fnExactGraphRound

