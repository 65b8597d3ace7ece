/-
  FnPairWord: for every input the law returns true and leaves its arguments as they were. No condition.
-/
import Derived.Test.YtdljndpobklkjaaDoorRows
import Derived.Test.YtdljndpobklkjaaDoorCards
import Derived.Test.YtdljndpobklkjaaDoorTie
import Derived.Test.YtdljndpobklkjaaDoorDr7
import Derived.Test.YtdljndpobklkjaaDoorPw6
import Derived.WalkKit
import Derived.Deep.QuietTactic
import Derived.BigQuiet
import Derived.Outline
import Derived.ProofKit
import Derived.OpenShut
import Derived.ShutString
import Derived.ChangeOld
import Derived.Below
import Derived.ChangeSame
import Derived.ChangeVars
import Derived.JoinedOf
import Derived.RowKit
import Derived.RowKitTokens
import Derived.LaidLaws
import Derived.LaidHandle
import Derived.Stop.Joined
import Derived.SevenTiedAt
import Derived.Lay
namespace Go.Proofs.YtdljndpobklkjaaDoor.fnPairWord
set_option maxRecDepth 100000
open Go.ChangeShapes Go.WideShapes Go.ChangeAt Go.RowKit
open Go.ChangeMaps (open_string shut_string)
set_option linter.unusedVariables false

theorem own : ownKnob Tryd.prog.godebug = none := by kernel_rfl
theorem laidOut : laidOutB Tryd.prog = true := by kernel_rfl

def IsRow (k : IntKind) (w : World) (a : Option Addr) (len cap : Nat) (zs : List Int) : Prop :=
  (a = none ∧ len = 0 ∧ cap = 0 ∧ zs = []) ∨
  ∃ x, a = some x ∧ len ≤ cap ∧ cap ≤ maxLen ∧ zs.length = cap ∧ (∀ i, i < zs.length → w.cell? (x.add i) = some (.int k (zs.getD i 0))) ∧ ∀ n ∈ zs, (Lit.int k n).wf = true

theorem src_of {w : World} {a : Option Addr} {len cap : Nat} {zs : List Int} (h : IsRow .u8 w a len cap zs) : ∃ bs : Nat → Nat, Src w w.heap.size a len bs ∧ len ≤ cap := by
  rcases h with ⟨rfl, rfl, rfl, rfl⟩ | ⟨x, rfl, hlc, _, hz, hc, hw⟩
  · exact ⟨fun _ => 0, ⟨fun _ => (by decide : (0 : Nat) < 256), fun j hj => absurd hj (by omega)⟩, Nat.le_refl _⟩
  · have hr : ∀ j, 0 ≤ zs.getD j 0 ∧ zs.getD j 0 < 256 := fun j => by
      rcases Nat.lt_or_ge j zs.length with h | h
      · have := hw zs[j] (List.getElem_mem h)
        rw [List.getD_eq_getElem?_getD, List.getElem?_eq_getElem h]
        simp [Lit.wf] at this
        have h0 : IntKind.u8.min = 0 := by decide
        have h1 : IntKind.u8.max = 255 := by decide
        rw [h0, h1] at this
        simp
        omega
      · rw [List.getD_eq_getElem?_getD, List.getElem?_eq_none h]; simp
    refine ⟨fun j => (zs.getD j 0).toNat, ⟨fun j => by have := hr j; show (zs.getD j 0).toNat < 256; omega, fun j hj => ⟨x, rfl, ?_, ?_⟩⟩, hlc⟩
    · have := block_lt_of_cell (hc 0 (by omega)); rwa [block_of_add] at this
    · rw [hc j (by omega), Int.toNat_of_nonneg (hr j).1]

set_option maxHeartbeats 3000000 in
theorem walk (a0 : Option Addr) (len0 cap0 : Nat) (z0 : List Int) (w : World) (het : True) (w0 : IsRow .u8 w a0 len0 cap0 z0) :
    Calls Tryd.prog 4 #[.slice a0 len0 cap0] w fun e w' => e = .returned (.bool true) ∧ Below w.heap.size w w' := by
  have HET := Lib.hid het
  clear het
  obtain ⟨bb, hS, hlc⟩ := src_of w0
  clear w0
  by_cases hbig : 1048576 < len0
  · go_enter Tryd.func4, Tryd.ntmps4
    go_wp2
    go_ret
    exact ⟨rfl, Below.refl _ _⟩
  go_enter Tryd.func4, Tryd.ntmps4
  go_wp2_with fail
  refine (drawPairWord_any _ _ _ _ _ hS hlc (by omega)).mono ?_
  rintro e v0 ⟨s, rfl, hs, hb0⟩
  have HB := Lib.hid hb0
  clear hS hlc hbig hb0
  obtain ⟨u, rfl⟩ : ∃ l, s = bs l := ⟨_, (bs_of _).symm⟩
  have hz := bs_size u
  rw [hz] at hs
  have HI := Lib.hid (fun W => implPWord_any u W)
  have HS := Lib.hid (fun W => specPWord_any u (by omega) W)
  unfold wpV at HI HS
  rcases hR : wordP u with ⟨ra, rb, rc⟩
  rw [hR] at HI HS
  dsimp only at HI HS
  have q1 : ((ra : Int) != (ra : Int)) = false := by simp
  have q2 : ((rb : Int) != (rb : Int)) = false := by simp
  have q3 : (rc != rc) = false := by simp
  have q4 : ((ra : Int) == (ra : Int)) = true := by simp
  have q5 : ((rb : Int) == (rb : Int)) = true := by simp
  cases rc with
  | false =>
    clear hR hz hs
    generalize bs u = ub at *
    go_wp2_with fail
    refine (HI.out _).mono ?_
    rintro e v1 ⟨rfl, hb⟩
    have HB := Lib.hid (HB.out.trans (hb.mono HB.out.size))
    clear hb
    go_wp2_with fail
    refine (HS.out _).mono ?_
    rintro e v2 ⟨rfl, hw⟩
    subst v2
    clear HI HS
    go_wp2
    go_ret
    exact ⟨by try rfl, HB.out⟩
  | true =>
    have hc1 : ⟨#[112, 113]⟩ ++ bs u = bs ([112, 113] ++ u) := bs_app [112, 113] u
    have hc2 : bs u ++ ⟨#[112, 113]⟩ = bs (u ++ [112, 113]) := bs_app u [112, 113]
    have hz2 : (⟨#[112, 113]⟩ : ByteArray).size = 2 := rfl
    have hn1 : (⟨#[112, 113]⟩ : ByteArray).size + (bs u).size ≤ 9223372036854775807 := by rw [hz, hz2]; omega
    have hn2 : (bs u).size + (⟨#[112, 113]⟩ : ByteArray).size ≤ 9223372036854775807 := by rw [hz, hz2]; omega
    have hn3 : 2 + u.length ≤ 9223372036854775807 := by omega
    have hn4 : u.length + 2 ≤ 9223372036854775807 := by omega
    have H1 := Lib.hid (fun W => implPWord_any ([112, 113] ++ u) W)
    have H2 := Lib.hid (fun W => implPWord_any (u ++ [112, 113]) W)
    have HL : Hid (u.length ≤ 38 → wordP ([112, 113] ++ u) = (ra, rb, true) ∧ wordP (u ++ [112, 113]) = (ra, rb, true)) := fun h => by
      have := pairWord_law h (by rw [hR])
      rw [hR] at this
      exact this
    unfold wpV at H1 H2
    clear hR
    generalize wordP ([112, 113] ++ u) = R1 at *
    generalize wordP (u ++ [112, 113]) = R2 at *
    by_cases hl : u.length ≤ 38
    · obtain ⟨e1, e2⟩ := HL.out hl
      rw [e1] at H1
      rw [e2] at H2
      dsimp only at H1 H2
      have hli : ¬ (38 : Int) < ((bs u).size : Int) := by rw [hz]; omega
      have hli2 : ¬ (38 : Int) < (u.length : Int) := by omega
      clear HL e1 e2 hl
      generalize bs ([112, 113] ++ u) = x1 at *
      generalize bs (u ++ [112, 113]) = x2 at *
      go_wp2_with fail
      refine (HI.out _).mono ?_
      rintro e v1 ⟨rfl, hb⟩
      have HB := Lib.hid (HB.out.trans (hb.mono HB.out.size))
      clear hb
      go_wp2_with fail
      refine (HS.out _).mono ?_
      rintro e v2 ⟨rfl, hw⟩
      subst v2
      go_wp2_with fail
      refine (H1.out _).mono ?_
      rintro e v3 ⟨rfl, hb⟩
      have HB := Lib.hid (HB.out.trans (hb.mono HB.out.size))
      clear hb
      go_wp2_with fail
      refine (H2.out _).mono ?_
      rintro e v4 ⟨rfl, hb⟩
      have HB := Lib.hid (HB.out.trans (hb.mono HB.out.size))
      clear hb HI HS H1 H2
      go_wp2
      go_ret
      exact ⟨by try rfl, HB.out⟩
    · have hli : (38 : Int) < ((bs u).size : Int) := by rw [hz]; omega
      have hli2 : (38 : Int) < (u.length : Int) := by omega
      clear HL hl
      obtain ⟨r1, r2, r3⟩ := R1
      obtain ⟨s1, s2, s3⟩ := R2
      dsimp only at H1 H2
      generalize bs ([112, 113] ++ u) = x1 at *
      generalize bs (u ++ [112, 113]) = x2 at *
      go_wp2_with fail
      refine (HI.out _).mono ?_
      rintro e v1 ⟨rfl, hb⟩
      have HB := Lib.hid (HB.out.trans (hb.mono HB.out.size))
      clear hb
      go_wp2_with fail
      refine (HS.out _).mono ?_
      rintro e v2 ⟨rfl, hw⟩
      subst v2
      go_wp2_with fail
      refine (H1.out _).mono ?_
      rintro e v3 ⟨rfl, hb⟩
      have HB := Lib.hid (HB.out.trans (hb.mono HB.out.size))
      clear hb
      go_wp2_with fail
      refine (H2.out _).mono ?_
      rintro e v4 ⟨rfl, hb⟩
      have HB := Lib.hid (HB.out.trans (hb.mono HB.out.size))
      clear hb HI HS H1 H2
      go_wp2
      go_ret
      exact ⟨by try rfl, HB.out⟩

/-! ### THE ROW's STEP -/
abbrev laidL : List (String × DataW Unit) := [("unicode/utf8.acceptRanges", Rows.laid_unicode_utf8_acceptRanges), ("unicode/utf8.first", Rows.laid_unicode_utf8_first)]
theorem laidWorld_met (os : Os) (args : Array Value) : laidMetH Tryd.prog laidL ((World.laidAll Tryd.prog os laidL).forCall (fun _ _ => 0) ⟨#[], args, []⟩).memory :=
  laidMetH_of_parts (laidMet_laidAll _ (by kernel_rfl) (by kernel_rfl)) (by kernel_rfl)

set_option maxRecDepth 100000 in
theorem lifted (os : Os) (started : os.Started) (H : Type) (enc : TypeId × Value → H) :
    ReturnsInHanded {} Tryd.checked os 4 .any (fun w args => (Rows.fnPairWordSpec.pre enc Tryd.prog Tryd.f4 [] false w args ∧ laidMetH Tryd.prog laidL w) ∧ sizedMet enc Tryd.prog Tryd.f4 (OpenSpec.ofChange Rows.fnPairWordSpec) false w args) (Rows.fnPairWordSpec.post enc Tryd.prog Tryd.f4 false true false false) := by
  refine returnsInHanded_of_change_and (C := Tryd.checked) (X := fun w _ => laidMetH Tryd.prog laidL w) (fun _ _ _ hh h => h.of_heap hh) own started (by kernel_rfl) Tryd.func4
    (ChangeSpec.witness_shaped (enc := enc) (C := Tryd.checked) (os := os) (X := fun w _ => laidMetH Tryd.prog laidL w) false (World.laidAll Tryd.prog os laidL) #[.slice none 0 0] 8 rfl (World.shaped_of_ZipB (by kernel_rfl) (by kernel_rfl)) (by kernel_rfl) (by kernel_rfl) (by kernel_rfl) (laidWorld_met os _)) ?_
  intro W base args ds gs before hval0 hW _ _ hL _
  have hval : ∀ (j : Nat) t v, Tryd.f4.params[j]? = some t → args[j]? = some v → Value.okWide Tryd.prog W .any base t v := hval0
  have hW' := hW
  obtain ⟨p, q, hA0, hV, rfl, hfz, hnd⟩ := hW
  have hA : DataW.TrodAll enc Tryd.prog W 0 (fun _ => true) true Tryd.f4.params.toList args.toList ds p := hA0
  rw [Tryd.params4] at hA hval
  obtain ⟨v0, vs0, d0, ds0, p0, qq0, hargs, rfl, rfl, h0, r0⟩ := trodAll_cons hA
  obtain ⟨rfl, rfl, rfl⟩ := trodAll_nil r0
  obtain rfl : args = #[v0] := by cases args; simp_all
  obtain ⟨rfl, rfl⟩ := trodVars_none hV
  obtain ⟨a0, len0, cap0, rfl⟩ := okWide_slice Tryd.underlying22 (hval 0 22 v0 rfl rfl)
  have k0 := h0
  have lt0 : ∀ x ∈ p0, x.block < W.heap.size := by obtain ⟨m, hm⟩ := k0; exact DataW.trod_lt m _ _ _ hm
  obtain ⟨z0, w0⟩ : ∃ zs, IsRow .u8 W a0 len0 cap0 zs := by
    obtain ⟨fuel, hf⟩ := h0
    rcases open_ints Tryd.underlying22 Tryd.underlying5 (by kernel_rfl) hf with ⟨hcs, _⟩ | ⟨x, l, c, zs, hcs, _, hl, hm, hz, _, hcell, hwz⟩
    · simp [Value.cells] at hcs
      obtain ⟨rfl, rfl, rfl⟩ := hcs
      exact ⟨[], .inl ⟨rfl, rfl, rfl, rfl⟩⟩
    · simp [Value.cells] at hcs
      obtain ⟨rfl, rfl, rfl⟩ := hcs
      exact ⟨zs, .inr ⟨_, rfl, hl, hm, by simpa using hz, hcell, hwz⟩⟩
  clear hA0 hval0
  refine (walk a0 len0 cap0 z0 W trivial w0).mono fun e W' ⟨he, bel⟩ => ?_
  subst he
  exact ⟨_, rfl, _, _, _, [], _, [], hW', trodAll_mk1 (shut_bool Tryd.underlying4 _), (trodAll_cons_mk (Below.trod laidOut (by kernel_rfl) (of_decide_eq_true (by kernel_rfl)) k0 bel lt0) trodAll_mk0), rfl, bel.frame _, fun h => by cases h⟩

theorem over : Rows.fnPairWordRow.holds Tryd.pinned (OpenSpec.ofChange Rows.fnPairWordSpec) :=
  OpenClaim.holds_of_wide 4 Tryd.f4 rfl rfl rfl rfl rfl rfl rfl ⟨rfl, rfl, rfl, rfl, rfl⟩ rfl rfl rfl rfl rfl (by kernel_rfl) Tryd.func4 (by kernel_rfl)
    (of_decide_eq_true (by kernel_rfl)) (by unfold Func.isWrapper; first | (rw [if_pos (by decide +kernel)]; kernel_rfl) | (rw [if_neg (by decide +kernel)]; exact ⟨rfl, rfl⟩))
    (fun os started H enc _ => lifted os started H enc)

theorem proved : Rows.FnPairWordCardSaid :=
  Claim7.holds_tied_plain_at .later [] [.data, .pinned] true _ true
    over (fun _ h => by cases h) (by kernel_rfl) (fun _ h => by cases h) fnPairWord_row_tie rfl ⟨rfl, rfl⟩ (by kernel_rfl) rfl
    (fun f fn hf hfn => by
      obtain rfl : f = 4 := Option.some.inj ((show Tryd.prog.funcNamed Rows.fnPairWordRow.func = some 4 by kernel_rfl).symm.trans hf) |>.symm
      obtain rfl : fn = Tryd.f4 := (Option.some.inj (Tryd.func4.symm.trans hfn)).symm
      exact ⟨by kernel_rfl, fun j t ht => by
        rw [Tryd.params4] at ht
        rcases j with _ | j
        · have h0 : t = 22 := by simpa using ht.symm
          subst h0
          exact (show Tryd.prog.wantsStandIn 22 = false by kernel_rfl)
        simp at ht⟩)
    (by kernel_rfl)
#print axioms proved
end Go.Proofs.YtdljndpobklkjaaDoor.fnPairWord

