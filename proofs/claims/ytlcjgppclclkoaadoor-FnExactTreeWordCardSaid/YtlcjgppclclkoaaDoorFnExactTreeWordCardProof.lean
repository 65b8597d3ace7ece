/-
  FnExactTreeWord: for every input the law returns true and leaves its arguments as they were. No condition.
-/
import Derived.Test.YtlcjgppclclkoaaDoorRows
import Derived.Test.YtlcjgppclclkoaaDoorCards
import Derived.Test.YtlcjgppclclkoaaDoorTie
import Derived.Test.YtlcjgppclclkoaaDoorUF
import Derived.Test.YtlcjgppclclkoaaDoorUB
import Derived.Test.YtlcjgppclclkoaaDoorTV
import Derived.WalkKit
import Derived.Deep.QuietTactic
import Derived.BigQuiet
import Derived.Outline
import Derived.ProofKit
import Derived.OpenShut
import Derived.ShutString
import Derived.ChangeOld
import Derived.Below
import Derived.ChangeSame
import Derived.ChangeVars
import Derived.JoinedOf
import Derived.RowKit
import Derived.RowKitTokens
import Derived.LaidLaws
import Derived.LaidHandle
import Derived.Stop.Joined
import Derived.SevenTiedAt
import Derived.Lay
namespace Go.Proofs.YtlcjgppclclkoaaDoor.fnExactTreeWord
set_option maxRecDepth 100000
open Go.ChangeShapes Go.WideShapes Go.ChangeAt Go.RowKit
open Go.ChangeMaps (open_string shut_string)
set_option linter.unusedVariables false

theorem own : ownKnob Tryd.prog.godebug = none := by kernel_rfl
theorem laidOut : laidOutB Tryd.prog = true := by kernel_rfl

def IsRow (k : IntKind) (w : World) (a : Option Addr) (len cap : Nat) (zs : List Int) : Prop :=
  (a = none ∧ len = 0 ∧ cap = 0 ∧ zs = []) ∨
  ∃ x, a = some x ∧ len ≤ cap ∧ cap ≤ maxLen ∧ zs.length = cap ∧ (∀ i, i < zs.length → w.cell? (x.add i) = some (.int k (zs.getD i 0))) ∧ ∀ n ∈ zs, (Lit.int k n).wf = true



set_option maxHeartbeats 2000000 in
theorem walk (a0 : Option Addr) (len0 cap0 : Nat) (z0 : List ByteArray) (s0 : ByteArray) (w : World) (het : True) (w0 : IsTree w a0 len0 z0 s0) :
    Calls Tryd.prog 10 #[.agg #[.slice a0 len0 cap0, .string s0]] w fun e w' => e = .returned (.bool true) ∧ Below w.heap.size w w' := by
  have HET := Lib.hid het
  clear het
  obtain ⟨hrs, hlen, hzl, hsl⟩ := w0
  have hB0 : Below w.heap.size w (w.alloc (.cells #[.slice a0 len0 cap0, .string s0] 36)) := (Below.refl _ w).alloc (Nat.le_refl _) _
  have hA0 : Blk (w.alloc (.cells #[.slice a0 len0 cap0, .string s0] 36)) w.heap.size 36 #[.slice a0 len0 cap0, .string s0] := Blk.new w _ _
  have hz0 : (w.alloc (.cells #[.slice a0 len0 cap0, .string s0] 36)).heap.size = w.heap.size + 1 := by simp
  have HB0 := Lib.hid hB0
  have HSZ := Lib.hid (szTree_any a0 len0 cap0 1048576 z0 s0 (w.alloc (.cells #[.slice a0 len0 cap0, .string s0] 36)) (hrs.below hB0) (by omega) (by omega) hlen hzl hsl)
  rw [hz0] at HSZ
  have HRS : Hid (∀ W : World, Below (w.heap.size + 1) (w.alloc (.cells #[.slice a0 len0 cap0, .string s0] 36)) W → RS W a0 len0 z0 ∧ W.cell? ⟨w.heap.size, 0, none⟩ = some (.slice a0 len0 cap0) ∧ W.cell? ⟨w.heap.size, 1, none⟩ = some (.string s0) ∧ w.heap.size < W.heap.size) := fun W hW =>
    ⟨(hrs.below hB0).below (by rw [hz0]; exact hW), (hA0.below hW (by omega)).cell 0, (hA0.below hW (by omega)).cell 1, (hA0.below hW (by omega)).lt⟩
  clear hB0 hA0 hz0 hrs
  go_enter Tryd.func10, Tryd.ntmps10
  go_wp2_with fail
  refine HSZ.out.mono ?_
  rintro e w1 ⟨r, rfl, hr0, hr1, hr2, hc1⟩
  obtain ⟨hrs1, k0, k1, kl⟩ := HRS.out w1 hc1
  have HE1 := Lib.hid (HB0.out.trans (hc1.mono (by omega)))
  have HR := Lib.hid hr2
  clear hr2 HSZ hrs1
  by_cases hr : r < 0
  · go_wp2
    go_ret
    exact ⟨rfl, HE1.out⟩
  obtain ⟨h1, h2, h3⟩ := HR.out (by omega)
  have hn : len0 ≤ 1048576 := by omega
  have hl : ∀ s ∈ z0, s.size ≤ 1048576 := fun s hs => by have := h3 s hs; omega
  have hle : s0.size ≤ 1048576 := by omega
  have HTO : Hid (∀ W : World, Below (w.heap.size + 1) (w.alloc (.cells #[.slice a0 len0 cap0, .string s0] 36)) W → Calls Tryd.prog 25 #[.agg #[.slice a0 len0 cap0, .string s0]] W fun e w' => ∃ B : Addr, e = .returned (.agg #[.slice (some B) len0 len0, .string s0]) ∧ w'.ownsRow W.heap.size 9 1 (.slice (some B) len0 len0) len0 (svL z0) ∧ Below W.heap.size W w') := fun W hW => toTree_any a0 len0 cap0 z0 s0 W (HRS.out W hW).1 hn
  have HSP : Hid (∀ (W : World) (B : Addr), RS W (some B) len0 z0 → Calls Tryd.prog 33 #[.agg #[.slice (some B) len0 len0, .string s0]] W (TreeWordPost z0 s0 W)) := fun W B h => specWord_any (some B) len0 len0 z0 s0 W h hn hl
  have HIM : Hid (∀ (W : World) (B : Addr), RS W (some B) len0 z0 → Calls Tryd.prog 34 #[.agg #[.slice (some B) len0 len0, .string s0]] W (TreeWordPost z0 s0 W)) := fun W B h => implWord_any (some B) len0 len0 z0 s0 W h hn hl hle
  have HEQ : Hid (∀ (W : World) (B C : Addr), RS W (some B) len0 z0 → RS W (some C) len0 z0 → Calls Tryd.prog 18 #[.agg #[.slice (some B) len0 len0, .string s0], .agg #[.slice (some C) len0 len0, .string s0]] W fun e w' => e = .returned (.bool true) ∧ Below W.heap.size W w') := fun W B C h h' => by
    have := eqTree_any (some B) (some C) len0 len0 len0 len0 z0 z0 s0 s0 W h h' hn
    rwa [decide_eq_true rfl, decide_eq_true rfl] at this
  clear h1 h2 h3 HR hl hle hlen hzl hsl
  go_wp2_with fail
  refine (HTO.out _ hc1).mono ?_
  rintro e w2 ⟨B1, rfl, ho2, hb2⟩
  have hrs2 := RS.of_own ho2
  have hc2 := hc1.trans (hb2.mono kl)
  clear hb2 ho2 hc1 k0 k1
  obtain ⟨_, k0, k1, kl⟩ := HRS.out w2 hc2
  go_wp2_with fail
  refine (HSP.out w2 B1 hrs2).mono ?_
  rintro e w3 ⟨t, b, rfl, hbs, hb3⟩
  have hc3 := hc2.trans (hb3.mono kl)
  clear hb3 hc2 k0 k1 hrs2
  obtain ⟨_, k0, k1, kl⟩ := HRS.out w3 hc3
  go_wp2_with fail
  refine (HTO.out w3 hc3).mono ?_
  rintro e w4 ⟨B2, rfl, ho4, hb4⟩
  have hc4' := hc3.trans (hb4.mono kl)
  have hx5 := Blk.new w4 29 #[.slice (some B2) len0 len0, .string s0]
  have ho5 := ho4.alloc (.cells #[.slice (some B2) len0 len0, .string s0] 29)
  have hl5 : w.heap.size < w4.heap.size := (HRS.out w4 hc4').2.2.2
  have hc5 := hc4'.alloc (show w.heap.size + 1 ≤ w4.heap.size from hl5) (.cells #[.slice (some B2) len0 len0, .string s0] 29)
  have HI5 := Lib.hid (HIM.out _ B2 (RS.of_own ho5))
  have HX5 := Lib.hid hx5
  have HO5 := Lib.hid (RS.of_own ho5)
  have HC5 := Lib.hid hc5
  have hz5 : (w4.alloc (.cells #[.slice (some B2) len0 len0, .string s0] 29)).heap.size = w4.heap.size + 1 := by simp
  have HZ5 := Lib.hid hz5
  clear hb4 hc3 k0 k1 kl ho4 ho5 hx5 hc5 hc4' hz5
  go_wp2_with fail
  refine HI5.out.mono ?_
  rintro e w6 ⟨t', b', rfl, hbi, hb6⟩
  have hx6 := HX5.out.below hb6 (by rw [HZ5.out]; omega)
  have ho6 := HO5.out.below hb6
  have hc6 := HC5.out.trans (hb6.mono (by rw [HZ5.out]; omega))
  obtain ⟨rfl, rfl⟩ : t' = t ∧ b' = b := hbi.same hbs
  clear hbs hbi
  have HX6 := Lib.hid hx6
  have HO6 := Lib.hid ho6
  obtain ⟨_, k0, k1, kl⟩ := HRS.out w6 hc6
  have kx := hx6.lt
  clear hb6 hx6 ho6 HI5 HX5 HO5 HC5 HZ5
  have htt : (t'.toList == t'.toList) = true := by rw [beq_str]; simp
  have hbb : (b' != b') = false := by simp
  go_wp2_with fail
  have x0 : w6.drew.cell? ⟨w4.heap.size, 0, none⟩ = some (.slice (some B2) len0 len0) := HX6.out.cell 0
  have x1 : w6.drew.cell? ⟨w4.heap.size, 1, none⟩ = some (.string s0) := HX6.out.cell 1
  have k0 : w6.drew.cell? ⟨w.heap.size, 0, none⟩ = some (.slice a0 len0 cap0) := k0
  have k1 : w6.drew.cell? ⟨w.heap.size, 1, none⟩ = some (.string s0) := k1
  refine wp_region_held_drew (S := (fun w' => w'.cell? ⟨w4.heap.size, 0, none⟩ = some (.slice (some B2) len0 len0) ∧ w'.cell? ⟨w4.heap.size, 1, none⟩ = some (.string s0) ∧ w'.cell? ⟨w.heap.size, 0, none⟩ = some (.slice a0 len0 cap0) ∧ w'.cell? ⟨w.heap.size, 1, none⟩ = some (.string s0))) (by kernel_rfl) ?_ (fun hHeld => ?_)
  · exact ⟨x0, x1, k0, k1⟩
  refine wpAnyH_take (i := 0) (v := .agg #[.slice (some B2) len0 len0, .string s0]) (by rw [List.getElem?_toArray]; rfl) (by kernel_rfl) (by kernel_rfl) (by kernel_rfl) (by exact fun _ _ _ h => h) (Or.inl ⟨by rfl, fun w hSw => by (try dsimp only at hSw); go_simp⟩) (by assumption) ?_
  try simp only [Act.put, List.setIfInBounds_toArray, List.set_cons_zero, List.set_cons_succ]
  refine wpAnyH_take (i := 1) (v := .agg #[.slice a0 len0 cap0, .string s0]) (by rw [List.getElem?_toArray]; rfl) (by kernel_rfl) (by kernel_rfl) (by kernel_rfl) (by exact fun _ _ _ h => h) (Or.inl ⟨by rfl, fun w hSw => by (try dsimp only at hSw); go_simp⟩) (by assumption) ?_
  try simp only [Act.put, List.setIfInBounds_toArray, List.set_cons_zero, List.set_cons_succ]
  refine wpAnyH_ready (rs := [2]) (by kernel_rfl) (by simp) ?_
  refine AllReadyH.cons (o := _) (by rw [List.getElem?_toArray]; rfl) (fun K hK => ?_) AllReadyH.nil
  go_simp
  refine (HTO.out _ ?_).mono ?_
  · exact hc6.drew
  rintro e w7 ⟨B3, rfl, ho7, hb7⟩
  have hb7 : Below w6.heap.size w6 w7 := ⟨hb7.os, hb7.tape, hb7.output, hb7.size, fun k hk => hb7.block k hk⟩
  have hc7 := hc6.trans (hb7.mono kl)
  obtain ⟨_, k0, k1, _⟩ := HRS.out w7 hc7
  have hx7 := HX6.out.below hb7 kx
  have x0 : w7.cell? ⟨w4.heap.size, 0, none⟩ = some (.slice (some B2) len0 len0) := hx7.cell 0
  have x1 : w7.cell? ⟨w4.heap.size, 1, none⟩ = some (.string s0) := hx7.cell 1
  refine hK.out _ _ ?_ (fun hHeld2 => ?_)
  · exact ⟨x0, x1, k0, k1⟩
  clear hK K
  try simp only [Act.put, List.setIfInBounds_toArray, List.set_cons_zero, List.set_cons_succ]
  refine wpAnyH_ready (rs := [3]) (by kernel_rfl) (by simp) ?_
  refine AllReadyH.cons (o := _) (by rw [List.getElem?_toArray]; rfl) (fun K hK => ?_) AllReadyH.nil
  go_simp
  refine (HEQ.out _ B2 B3 ?_ ?_).mono ?_
  · exact HO6.out.below hb7
  · exact RS.of_own ho7
  rintro e w8 ⟨rfl, hb8⟩
  have hx8 := hx7.below hb8 hx7.lt
  have hc8 := hc7.trans (hb8.mono (Nat.le_trans kl hb7.size))
  obtain ⟨_, k0, k1, _⟩ := HRS.out w8 hc8
  have x0 : w8.cell? ⟨w4.heap.size, 0, none⟩ = some (.slice (some B2) len0 len0) := hx8.cell 0
  have x1 : w8.cell? ⟨w4.heap.size, 1, none⟩ = some (.string s0) := hx8.cell 1
  refine hK.out _ _ ?_ (fun hHeld3 => ?_)
  · exact ⟨x0, x1, k0, k1⟩
  clear hK K
  try simp only [Act.put, List.setIfInBounds_toArray, List.set_cons_zero, List.set_cons_succ]
  refine wpAnyH_take (i := 4) (v := .bool false) (by rw [List.getElem?_toArray]; rfl) (by kernel_rfl) (by kernel_rfl) (by kernel_rfl) (by exact fun _ _ _ h => h) (Or.inl ⟨by rfl, fun w hSw => by (try dsimp only at hSw); go_simp⟩) (by assumption) ?_
  try simp only [Act.put, List.setIfInBounds_toArray, List.set_cons_zero, List.set_cons_succ]
  refine wpAnyH_done (by kernel_rfl) ?_ _
  clear hHeld
  have HF := Lib.hid (HB0.out.trans (hc8.mono (by omega)))
  go_wp2
  go_ret
  exact ⟨rfl, HF.out⟩

/-! ### THE ROW's STEP -/
abbrev laidL : List (String × DataW Unit) := [("unicode/utf8.acceptRanges", Rows.laid_unicode_utf8_acceptRanges), ("unicode/utf8.first", Rows.laid_unicode_utf8_first)]
theorem laidWorld_met (os : Os) (args : Array Value) : laidMetH Tryd.prog laidL ((World.laidAll Tryd.prog os laidL).forCall (fun _ _ => 0) ⟨#[], args, []⟩).memory :=
  laidMetH_of_parts (laidMet_laidAll _ (by kernel_rfl) (by kernel_rfl)) (by kernel_rfl)

set_option maxRecDepth 100000 in
theorem lifted (os : Os) (started : os.Started) (H : Type) (enc : TypeId × Value → H) :
    ReturnsInHanded {} Tryd.checked os 10 .any (fun w args => (Rows.fnExactTreeWordSpec.pre enc Tryd.prog Tryd.f10 [] false w args ∧ laidMetH Tryd.prog laidL w) ∧ sizedMet enc Tryd.prog Tryd.f10 (OpenSpec.ofChange Rows.fnExactTreeWordSpec) false w args) (Rows.fnExactTreeWordSpec.post enc Tryd.prog Tryd.f10 false true false false) := by
  refine returnsInHanded_of_change_and (C := Tryd.checked) (X := fun w _ => laidMetH Tryd.prog laidL w) (fun _ _ _ hh h => h.of_heap hh) own started (by kernel_rfl) Tryd.func10
    (ChangeSpec.witness_shaped (enc := enc) (C := Tryd.checked) (os := os) (X := fun w _ => laidMetH Tryd.prog laidL w) false (World.laidAll Tryd.prog os laidL) #[.agg #[.slice none 0 0, .string ByteArray.empty]] 8 rfl (World.shaped_of_ZipB (by kernel_rfl) (by kernel_rfl)) (by kernel_rfl) (by kernel_rfl) (by kernel_rfl) (laidWorld_met os _)) ?_
  intro W base args ds gs before hval0 hW _ _ hL _
  have hval : ∀ (j : Nat) t v, Tryd.f10.params[j]? = some t → args[j]? = some v → Value.okWide Tryd.prog W .any base t v := hval0
  have hW' := hW
  obtain ⟨p, q, hA0, hV, rfl, hfz, hnd⟩ := hW
  have hA : DataW.TrodAll enc Tryd.prog W 0 (fun _ => true) true Tryd.f10.params.toList args.toList ds p := hA0
  rw [Tryd.params10] at hA hval
  obtain ⟨v0, vs0, d0, ds0, p0, qq0, hargs, rfl, rfl, h0, r0⟩ := trodAll_cons hA
  obtain ⟨rfl, rfl, rfl⟩ := trodAll_nil r0
  obtain rfl : args = #[v0] := by cases args; simp_all
  obtain ⟨rfl, rfl⟩ := trodVars_none hV
  have k0 := h0
  have lt0 : ∀ x ∈ p0, x.block < W.heap.size := by obtain ⟨m, hm⟩ := k0; exact DataW.trod_lt m _ _ _ hm
  obtain ⟨x0, y0, u0, t0, n0, rfl, rfl, rfl, g0, l0⟩ := Go.Joins.open_agg2 Tryd.underlying36 (by kernel_rfl) (by kernel_rfl) (hval 0 36 v0 rfl rfl) h0
  obtain ⟨a0, len0, cap0, z0, rfl, q0⟩ := open_strs0 Tryd.underlying27 Tryd.underlying9 (by kernel_rfl) g0
  obtain ⟨s0, e0, f0⟩ := open_str0 Tryd.underlying9 l0
  subst e0
  have w0 : IsTree W a0 len0 z0 s0 := ⟨q0.1, q0.2.1, q0.2.2, f0⟩
  clear hA0 hval0
  refine (walk a0 len0 cap0 z0 s0 W trivial w0).mono fun e W' ⟨he, bel⟩ => ?_
  subst he
  exact ⟨_, rfl, _, _, _, [], _, [], hW', trodAll_mk1 (shut_bool Tryd.underlying4 _), (trodAll_cons_mk (Below.trod laidOut (by kernel_rfl) (of_decide_eq_true (by kernel_rfl)) k0 bel lt0) trodAll_mk0), rfl, bel.frame _, fun h => by cases h⟩

theorem over : Rows.fnExactTreeWordRow.holds Tryd.pinned (OpenSpec.ofChange Rows.fnExactTreeWordSpec) :=
  OpenClaim.holds_of_wide 10 Tryd.f10 rfl rfl rfl rfl rfl rfl rfl ⟨rfl, rfl, rfl, rfl, rfl⟩ rfl rfl rfl rfl rfl (by kernel_rfl) Tryd.func10 (by kernel_rfl)
    (of_decide_eq_true (by kernel_rfl)) (by unfold Func.isWrapper; first | (rw [if_pos (by decide +kernel)]; kernel_rfl) | (rw [if_neg (by decide +kernel)]; exact ⟨rfl, rfl⟩))
    (fun os started H enc _ => lifted os started H enc)

theorem proved : Rows.FnExactTreeWordCardSaid :=
  Claim7.holds_tied_plain_at .later [] [.data, .pinned] true _ false
    over (fun _ h => by cases h) (by kernel_rfl) (fun _ h => by cases h) fnExactTreeWord_row_tie rfl ⟨rfl, rfl⟩ (by kernel_rfl) rfl
    (fun f fn hf hfn => by
      obtain rfl : f = 10 := Option.some.inj ((show Tryd.prog.funcNamed Rows.fnExactTreeWordRow.func = some 10 by kernel_rfl).symm.trans hf) |>.symm
      obtain rfl : fn = Tryd.f10 := (Option.some.inj (Tryd.func10.symm.trans hfn)).symm
      exact ⟨by kernel_rfl, fun j t ht => by
        rw [Tryd.params10] at ht
        rcases j with _ | j
        · have h0 : t = 36 := by simpa using ht.symm
          subst h0
          exact (show Tryd.prog.wantsStandIn 36 = false by kernel_rfl)
        simp at ht⟩)
    (by kernel_rfl)
#print axioms proved
end Go.Proofs.YtlcjgppclclkoaaDoor.fnExactTreeWord

