/-
  FnTreeWords: for every input the law returns true and leaves its arguments as they were. No condition.
-/
import Derived.Test.YtlfbocmcbkcfhaaDoorRows
import Derived.Test.YtlfbocmcbkcfhaaDoorCards
import Derived.Test.YtlfbocmcbkcfhaaDoorTie
import Derived.Test.YtlfbocmcbkcfhaaDoorUX
import Derived.Test.YtlfbocmcbkcfhaaDoorUN
import Derived.Test.YtlfbocmcbkcfhaaDoorUK
import Derived.Test.YtlfbocmcbkcfhaaDoorUL
import Derived.Test.YtlfbocmcbkcfhaaDoorUS
import Derived.WalkKit
import Derived.Deep.QuietTactic
import Derived.BigQuiet
import Derived.Outline
import Derived.ProofKit
import Derived.OpenShut
import Derived.ShutString
import Derived.ChangeOld
import Derived.Below
import Derived.ChangeSame
import Derived.ChangeVars
import Derived.JoinedOf
import Derived.RowKit
import Derived.RowKitTokens
import Derived.LaidLaws
import Derived.LaidHandle
import Derived.Stop.Joined
import Derived.SevenTiedAt
import Derived.Lay
namespace Go.Proofs.YtlfbocmcbkcfhaaDoor.fnTreeWords
set_option maxRecDepth 100000
open Go.ChangeShapes Go.WideShapes Go.ChangeAt Go.RowKit
open Go.ChangeMaps (open_string shut_string)
set_option linter.unusedVariables false

theorem own : ownKnob Tryd.prog.godebug = none := by kernel_rfl
theorem laidOut : laidOutB Tryd.prog = true := by kernel_rfl

def IsRow (k : IntKind) (w : World) (a : Option Addr) (len cap : Nat) (zs : List Int) : Prop :=
  (a = none ∧ len = 0 ∧ cap = 0 ∧ zs = []) ∨
  ∃ x, a = some x ∧ len ≤ cap ∧ cap ≤ maxLen ∧ zs.length = cap ∧ (∀ i, i < zs.length → w.cell? (x.add i) = some (.int k (zs.getD i 0))) ∧ ∀ n ∈ zs, (Lit.int k n).wf = true

theorem src_of {w : World} {a : Option Addr} {len cap : Nat} {zs : List Int} (h : IsRow .u8 w a len cap zs) : ∃ bs : Nat → Nat, Src w w.heap.size a len bs ∧ len ≤ cap := by
  rcases h with ⟨rfl, rfl, rfl, rfl⟩ | ⟨x, rfl, hlc, _, hz, hc, hw⟩
  · exact ⟨fun _ => 0, ⟨fun _ => (by decide : (0 : Nat) < 256), fun j hj => absurd hj (by omega)⟩, Nat.le_refl _⟩
  · have hr : ∀ j, 0 ≤ zs.getD j 0 ∧ zs.getD j 0 < 256 := fun j => by
      rcases Nat.lt_or_ge j zs.length with h | h
      · have := hw zs[j] (List.getElem_mem h)
        rw [List.getD_eq_getElem?_getD, List.getElem?_eq_getElem h]
        simp [Lit.wf] at this
        have h0 : IntKind.u8.min = 0 := by decide
        have h1 : IntKind.u8.max = 255 := by decide
        rw [h0, h1] at this
        simp
        omega
      · rw [List.getD_eq_getElem?_getD, List.getElem?_eq_none h]; simp
    refine ⟨fun j => (zs.getD j 0).toNat, ⟨fun j => by have := hr j; show (zs.getD j 0).toNat < 256; omega, fun j hj => ⟨x, rfl, ?_, ?_⟩⟩, hlc⟩
    · have := block_lt_of_cell (hc 0 (by omega)); rwa [block_of_add] at this
    · rw [hc j (by omega), Int.toNat_of_nonneg (hr j).1]

set_option maxHeartbeats 3000000 in
theorem walk (a0 : Option Addr) (len0 cap0 : Nat) (z0 : List Int) (w : World) (het : True) (w0 : IsRow .u8 w a0 len0 cap0 z0) :
    Calls Tryd.prog 6 #[.slice a0 len0 cap0] w fun e w' => e = .returned (.bool true) ∧ Below w.heap.size w w' := by
  have HET := Lib.hid het
  clear het

  obtain ⟨bs, hS, hlc⟩ := src_of w0
  clear w0
  by_cases hbig : 1048576 < len0
  · go_enter Tryd.func6, Tryd.ntmps6
    go_wp2
    go_ret
    exact ⟨rfl, Below.refl _ _⟩
  go_enter Tryd.func6, Tryd.ntmps6
  go_wp2_with fail
  refine (drawSame_any _ _ _ _ _ hS hlc (by omega)).mono ?_
  rintro e w1 ⟨x0, y0, rfl, hx0, hy0, hbel⟩
  have HB := Lib.hid hbel
  clear hS hbel hbig
  have HC := Lib.hid (implSameT2_any x0 y0 hx0 hy0 w1)
  go_wp2_with fail
  refine HC.out.mono ?_
  rintro e w2 ⟨b, rfl, hq, hb⟩
  have HB := Lib.hid (HB.out.trans (hb.mono HB.out.size))
  have HQ := Lib.hid hq
  clear hb HC hq
  have HC := Lib.hid (specSameT2_any x0 y0 hx0 hy0 w2)
  go_wp2_with fail
  refine HC.out.mono ?_
  rintro e w3 ⟨b', rfl, hq', hb⟩
  have HB := Lib.hid (HB.out.trans (hb.mono HB.out.size))
  obtain rfl : b = b' := Bool.eq_iff_iff.2 (HQ.out.trans hq'.symm)
  clear hb HC hq'
  cases b with
  | false =>
    go_wp2
    go_ret
    exact ⟨rfl, HB.out⟩
  | true =>
    have HT := Lib.hid (HQ.out.1 rfl)
    clear HQ
    by_cases hla : 12 < x0.size
    · go_wp2
      go_ret
      exact ⟨rfl, HB.out⟩
    by_cases hlb : 12 < y0.size
    · go_wp2
      go_ret
      exact ⟨rfl, HB.out⟩
    have hlai : ¬ (12 : Int) < (x0.size : Int) := by omega
    have hlbi : ¬ (12 : Int) < (y0.size : Int) := by omega
    have HC := Lib.hid (implOfT_any x0 hx0 w3)
    go_wp2_with fail
    refine HC.out.mono ?_
    rintro e w4 ⟨R1, hk, hb, At, nt, ct, rfl, ho⟩
    have HB := Lib.hid (HB.out.trans (hb.mono HB.out.size))
    have HKt := Lib.hid hk
    have HRt := Lib.hid ho
    have HZt := Lib.hid hk.szs
    have hnt : nt ≤ 60 := HZt.out.n HRt.out
    clear hb ho HC hk
    have HRt := Lib.hid (HRt.out.alloc (.cells #[.slice At nt ct, .string (resE R1)] 25))
    have KBbt := Lib.hid (Blk.new w4 25 #[.slice At nt ct, .string (resE R1)])
    have HB := Lib.hid (HB.out.alloc HB.out.size (.cells #[.slice At nt ct, .string (resE R1)] 25))
    have HC := Lib.hid (implTimes_any At At nt nt ct ct (resL R1) (resL R1) (resE R1) (resE R1) ((w4.alloc (.cells #[.slice At nt ct, .string (resE R1)] 25))) (RS.of_own HRt.out) (RS.of_own HRt.out) (by omega) (by omega) HZt.out.big.1 HZt.out.big.1 HZt.out.big.2 HZt.out.big.2)
    go_wp2_with fail
    refine HC.out.mono ?_
    rintro e w5 ⟨R2, hk, hb, Au, nu, cu, rfl, ho⟩
    have KBbt := Lib.hid (KBbt.out.below hb KBbt.out.lt)
    have HRt := Lib.hid (own_below0 HRt.out hb)
    have HB := Lib.hid (HB.out.trans (hb.mono HB.out.size))
    have HKu := Lib.hid hk
    have HRu := Lib.hid ho
    have HZu := Lib.hid hk.szs
    have hnu : nu ≤ 60 := HZu.out.n HRu.out
    clear hb ho HC hk
    have KLbt : Hid (w4.heap.size < w5.heap.size) := KBbt.out.lt
    have KBbt := Lib.hid (KBbt.out.alloc (.cells #[.slice Au nu cu, .string (resE R2)] 25))
    have HRt := Lib.hid (HRt.out.alloc (.cells #[.slice Au nu cu, .string (resE R2)] 25))
    have HRu := Lib.hid (HRu.out.alloc (.cells #[.slice Au nu cu, .string (resE R2)] 25))
    have KBbu := Lib.hid (Blk.new w5 25 #[.slice Au nu cu, .string (resE R2)])
    have HB := Lib.hid (HB.out.alloc HB.out.size (.cells #[.slice Au nu cu, .string (resE R2)] 25))
    have hzs : (x0 ++ y0).size ≤ 1048576 := by rw [ByteArray.size_append]; omega
    have hzm : x0.size + y0.size ≤ 9223372036854775807 := by omega
    have HC := Lib.hid (implOfT_any (x0 ++ y0) hzs ((w5.alloc (.cells #[.slice Au nu cu, .string (resE R2)] 25))))
    have kbt0 : w5.cell? ⟨w4.heap.size, 0, none⟩ = some (.slice At nt ct) := by have := KBbt.out.cell 0; rwa [World.cell?_alloc_lt _ _ _ (KLbt.out)] at this
    have kbt1 : w5.cell? ⟨w4.heap.size, 1, none⟩ = some (.string (resE R1)) := by have := KBbt.out.cell 1; rwa [World.cell?_alloc_lt _ _ _ (KLbt.out)] at this
    have kbtl : w4.heap.size < w5.heap.size := KLbt.out
    go_wp2_with fail
    refine HC.out.mono ?_
    rintro e w6 ⟨R3, hk, hb, Av, nv, cv, rfl, ho⟩
    clear kbt0 kbt1 kbtl
    have KBbt := Lib.hid (KBbt.out.below hb KBbt.out.lt)
    have KBbu := Lib.hid (KBbu.out.below hb KBbu.out.lt)
    have HRt := Lib.hid (own_below0 HRt.out hb)
    have HRu := Lib.hid (own_below0 HRu.out hb)
    have HB := Lib.hid (HB.out.trans (hb.mono HB.out.size))
    have HKv := Lib.hid hk
    have HRv := Lib.hid ho
    have HZv := Lib.hid hk.szs
    have hnv : nv ≤ 60 := HZv.out.n HRv.out
    clear hb ho HC hk
    have KLbt : Hid (w4.heap.size < w6.heap.size) := KBbt.out.lt
    have KLbu : Hid (w5.heap.size < w6.heap.size) := KBbu.out.lt
    have KBbt := Lib.hid (KBbt.out.alloc (.cells #[.slice Av nv cv, .string (resE R3)] 25))
    have KBbu := Lib.hid (KBbu.out.alloc (.cells #[.slice Av nv cv, .string (resE R3)] 25))
    have HRt := Lib.hid (HRt.out.alloc (.cells #[.slice Av nv cv, .string (resE R3)] 25))
    have HRu := Lib.hid (HRu.out.alloc (.cells #[.slice Av nv cv, .string (resE R3)] 25))
    have HRv := Lib.hid (HRv.out.alloc (.cells #[.slice Av nv cv, .string (resE R3)] 25))
    have KBbv := Lib.hid (Blk.new w6 25 #[.slice Av nv cv, .string (resE R3)])
    have HB := Lib.hid (HB.out.alloc HB.out.size (.cells #[.slice Av nv cv, .string (resE R3)] 25))
    have HL := Lib.hid (words_law HT.out HKt.out HKu.out HKv.out (by omega) (by omega))
    cases s1 : R1.isSome with
    | false => exact absurd (s1.symm.trans HL.out.1) (by decide)
    | true =>
    cases s3 : R3.isSome with
    | false => exact absurd (s3.symm.trans HL.out.2.1) (by decide)
    | true =>
    cases s2 : R2.isSome with
    | false =>
      go_wp2
      go_ret
      exact ⟨rfl, HB.out⟩
    | true =>
      have hsm : resL R2 = resL R3 ∧ resE R2 = resE R3 := HL.out.2.2 s2
      have hsd : (decide (resL R2 = resL R3) && decide (resE R2 = resE R3)) = true := by rw [decide_eq_true hsm.1, decide_eq_true hsm.2]; rfl
      have hc := sameTree2_any Au Av nu nv cu cv (resL R2) (resL R3) (resE R2) (resE R3) ((w6.alloc (.cells #[.slice Av nv cv, .string (resE R3)] 25))) (RS.of_own HRu.out) (RS.of_own HRv.out) (by omega)
      rw [hsd] at hc
      have HC := Lib.hid hc
      clear hc hsd hsm
      have kbt0 : w6.cell? ⟨w4.heap.size, 0, none⟩ = some (.slice At nt ct) := by have := KBbt.out.cell 0; rwa [World.cell?_alloc_lt _ _ _ (KLbt.out)] at this
      have kbt1 : w6.cell? ⟨w4.heap.size, 1, none⟩ = some (.string (resE R1)) := by have := KBbt.out.cell 1; rwa [World.cell?_alloc_lt _ _ _ (KLbt.out)] at this
      have kbtl : w4.heap.size < w6.heap.size := KLbt.out
      have kbu0 : w6.cell? ⟨w5.heap.size, 0, none⟩ = some (.slice Au nu cu) := by have := KBbu.out.cell 0; rwa [World.cell?_alloc_lt _ _ _ (KLbu.out)] at this
      have kbu1 : w6.cell? ⟨w5.heap.size, 1, none⟩ = some (.string (resE R2)) := by have := KBbu.out.cell 1; rwa [World.cell?_alloc_lt _ _ _ (KLbu.out)] at this
      have kbul : w5.heap.size < w6.heap.size := KLbu.out
      go_wp2_with fail
      refine HC.out.mono ?_
      rintro e w7 ⟨rfl, hb⟩
      clear kbt0 kbt1 kbtl kbu0 kbu1 kbul
      have KBbt := Lib.hid (KBbt.out.below hb KBbt.out.lt)
      have KBbu := Lib.hid (KBbu.out.below hb KBbu.out.lt)
      have KBbv := Lib.hid (KBbv.out.below hb KBbv.out.lt)
      have HRt := Lib.hid (own_below0 HRt.out hb)
      have HRu := Lib.hid (own_below0 HRu.out hb)
      have HRv := Lib.hid (own_below0 HRv.out hb)
      have HB := Lib.hid (HB.out.trans (hb.mono HB.out.size))
      clear hb HC
      go_wp2
      go_ret
      exact ⟨rfl, HB.out⟩

/-! ### THE ROW's STEP -/
abbrev laidL : List (String × DataW Unit) := [("unicode/utf8.acceptRanges", Rows.laid_unicode_utf8_acceptRanges), ("unicode/utf8.first", Rows.laid_unicode_utf8_first)]
theorem laidWorld_met (os : Os) (args : Array Value) : laidMetH Tryd.prog laidL ((World.laidAll Tryd.prog os laidL).forCall (fun _ _ => 0) ⟨#[], args, []⟩).memory :=
  laidMetH_of_parts (laidMet_laidAll _ (by kernel_rfl) (by kernel_rfl)) (by kernel_rfl)

set_option maxRecDepth 100000 in
theorem lifted (os : Os) (started : os.Started) (H : Type) (enc : TypeId × Value → H) :
    ReturnsInHanded {} Tryd.checked os 6 .any (fun w args => (Rows.fnTreeWordsSpec.pre enc Tryd.prog Tryd.f6 [] false w args ∧ laidMetH Tryd.prog laidL w) ∧ sizedMet enc Tryd.prog Tryd.f6 (OpenSpec.ofChange Rows.fnTreeWordsSpec) false w args) (Rows.fnTreeWordsSpec.post enc Tryd.prog Tryd.f6 false true false false) := by
  refine returnsInHanded_of_change_and (C := Tryd.checked) (X := fun w _ => laidMetH Tryd.prog laidL w) (fun _ _ _ hh h => h.of_heap hh) own started (by kernel_rfl) Tryd.func6
    (ChangeSpec.witness_shaped (enc := enc) (C := Tryd.checked) (os := os) (X := fun w _ => laidMetH Tryd.prog laidL w) false (World.laidAll Tryd.prog os laidL) #[.slice none 0 0] 8 rfl (World.shaped_of_ZipB (by kernel_rfl) (by kernel_rfl)) (by kernel_rfl) (by kernel_rfl) (by kernel_rfl) (laidWorld_met os _)) ?_
  intro W base args ds gs before hval0 hW _ _ hL _
  have hval : ∀ (j : Nat) t v, Tryd.f6.params[j]? = some t → args[j]? = some v → Value.okWide Tryd.prog W .any base t v := hval0
  have hW' := hW
  obtain ⟨p, q, hA0, hV, rfl, hfz, hnd⟩ := hW
  have hA : DataW.TrodAll enc Tryd.prog W 0 (fun _ => true) true Tryd.f6.params.toList args.toList ds p := hA0
  rw [Tryd.params6] at hA hval
  obtain ⟨v0, vs0, d0, ds0, p0, qq0, hargs, rfl, rfl, h0, r0⟩ := trodAll_cons hA
  obtain ⟨rfl, rfl, rfl⟩ := trodAll_nil r0
  obtain rfl : args = #[v0] := by cases args; simp_all
  obtain ⟨rfl, rfl⟩ := trodVars_none hV
  obtain ⟨a0, len0, cap0, rfl⟩ := okWide_slice Tryd.underlying22 (hval 0 22 v0 rfl rfl)
  have k0 := h0
  have lt0 : ∀ x ∈ p0, x.block < W.heap.size := by obtain ⟨m, hm⟩ := k0; exact DataW.trod_lt m _ _ _ hm
  obtain ⟨z0, w0⟩ : ∃ zs, IsRow .u8 W a0 len0 cap0 zs := by
    obtain ⟨fuel, hf⟩ := h0
    rcases open_ints Tryd.underlying22 Tryd.underlying5 (by kernel_rfl) hf with ⟨hcs, _⟩ | ⟨x, l, c, zs, hcs, _, hl, hm, hz, _, hcell, hwz⟩
    · simp [Value.cells] at hcs
      obtain ⟨rfl, rfl, rfl⟩ := hcs
      exact ⟨[], .inl ⟨rfl, rfl, rfl, rfl⟩⟩
    · simp [Value.cells] at hcs
      obtain ⟨rfl, rfl, rfl⟩ := hcs
      exact ⟨zs, .inr ⟨_, rfl, hl, hm, by simpa using hz, hcell, hwz⟩⟩
  clear hA0 hval0
  refine (walk a0 len0 cap0 z0 W trivial w0).mono fun e W' ⟨he, bel⟩ => ?_
  subst he
  exact ⟨_, rfl, _, _, _, [], _, [], hW', trodAll_mk1 (shut_bool Tryd.underlying4 _), (trodAll_cons_mk (Below.trod laidOut (by kernel_rfl) (of_decide_eq_true (by kernel_rfl)) k0 bel lt0) trodAll_mk0), rfl, bel.frame _, fun h => by cases h⟩

theorem over : Rows.fnTreeWordsRow.holds Tryd.pinned (OpenSpec.ofChange Rows.fnTreeWordsSpec) :=
  OpenClaim.holds_of_wide 6 Tryd.f6 rfl rfl rfl rfl rfl rfl rfl ⟨rfl, rfl, rfl, rfl, rfl⟩ rfl rfl rfl rfl rfl (by kernel_rfl) Tryd.func6 (by kernel_rfl)
    (of_decide_eq_true (by kernel_rfl)) (by unfold Func.isWrapper; first | (rw [if_pos (by decide +kernel)]; kernel_rfl) | (rw [if_neg (by decide +kernel)]; exact ⟨rfl, rfl⟩))
    (fun os started H enc _ => lifted os started H enc)

theorem proved : Rows.FnTreeWordsCardSaid :=
  Claim7.holds_tied_plain_at .later [] [.data, .pinned] true _ false
    over (fun _ h => by cases h) (by kernel_rfl) (fun _ h => by cases h) fnTreeWords_row_tie rfl ⟨rfl, rfl⟩ (by kernel_rfl) rfl
    (fun f fn hf hfn => by
      obtain rfl : f = 6 := Option.some.inj ((show Tryd.prog.funcNamed Rows.fnTreeWordsRow.func = some 6 by kernel_rfl).symm.trans hf) |>.symm
      obtain rfl : fn = Tryd.f6 := (Option.some.inj (Tryd.func6.symm.trans hfn)).symm
      exact ⟨by kernel_rfl, fun j t ht => by
        rw [Tryd.params6] at ht
        rcases j with _ | j
        · have h0 : t = 22 := by simpa using ht.symm
          subst h0
          exact (show Tryd.prog.wantsStandIn 22 = false by kernel_rfl)
        simp at ht⟩)
    (by kernel_rfl)
#print axioms proved
end Go.Proofs.YtlfbocmcbkcfhaaDoor.fnTreeWords

