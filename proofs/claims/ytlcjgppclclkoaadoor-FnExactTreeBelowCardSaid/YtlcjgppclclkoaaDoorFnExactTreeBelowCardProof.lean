/-
  FnExactTreeBelow: for every input the law returns true and leaves its arguments as they were. No condition.
-/
import Derived.Test.YtlcjgppclclkoaaDoorRows
import Derived.Test.YtlcjgppclclkoaaDoorCards
import Derived.Test.YtlcjgppclclkoaaDoorTie
import Derived.Test.YtlcjgppclclkoaaDoorUG
import Derived.Test.YtlcjgppclclkoaaDoorUB
import Derived.Test.YtlcjgppclclkoaaDoorTV
import Derived.WalkKit
import Derived.Deep.QuietTactic
import Derived.BigQuiet
import Derived.Outline
import Derived.ProofKit
import Derived.OpenShut
import Derived.ShutString
import Derived.ChangeOld
import Derived.Below
import Derived.ChangeSame
import Derived.ChangeVars
import Derived.JoinedOf
import Derived.RowKit
import Derived.RowKitTokens
import Derived.LaidLaws
import Derived.LaidHandle
import Derived.Stop.Joined
import Derived.SevenTiedAt
import Derived.Lay
namespace Go.Proofs.YtlcjgppclclkoaaDoor.fnExactTreeBelow
set_option maxRecDepth 100000
open Go.ChangeShapes Go.WideShapes Go.ChangeAt Go.RowKit
open Go.ChangeMaps (open_string shut_string)
set_option linter.unusedVariables false

theorem own : ownKnob Tryd.prog.godebug = none := by kernel_rfl
theorem laidOut : laidOutB Tryd.prog = true := by kernel_rfl

def IsRow (k : IntKind) (w : World) (a : Option Addr) (len cap : Nat) (zs : List Int) : Prop :=
  (a = none ∧ len = 0 ∧ cap = 0 ∧ zs = []) ∨
  ∃ x, a = some x ∧ len ≤ cap ∧ cap ≤ maxLen ∧ zs.length = cap ∧ (∀ i, i < zs.length → w.cell? (x.add i) = some (.int k (zs.getD i 0))) ∧ ∀ n ∈ zs, (Lit.int k n).wf = true



set_option maxHeartbeats 3000000 in
theorem walk (a0 : Option Addr) (len0 cap0 : Nat) (z0 : List ByteArray) (s0 : ByteArray) (a1 : Option Addr) (len1 cap1 : Nat) (z1 : List ByteArray) (s1 : ByteArray) (w : World) (het : True) (w0 : IsTree w a0 len0 z0 s0) (w1 : IsTree w a1 len1 z1 s1) :
    Calls Tryd.prog 8 #[.agg #[.slice a0 len0 cap0, .string s0], .agg #[.slice a1 len1 cap1, .string s1]] w fun e w' => e = .returned (.bool true) ∧ Below w.heap.size w w' := by
  have HET := Lib.hid het
  clear het
  obtain ⟨hrs, hlen, hzl, hsl⟩ := w0
  obtain ⟨hrs', hlen', hzl', hsl'⟩ := w1
  have hB0 : Below w.heap.size w ((w.alloc (.cells #[.slice a0 len0 cap0, .string s0] 36)).alloc (.cells #[.slice a1 len1 cap1, .string s1] 36)) := ((Below.refl _ w).alloc (Nat.le_refl _) _).alloc (by simp) _
  have hA0 : Blk ((w.alloc (.cells #[.slice a0 len0 cap0, .string s0] 36)).alloc (.cells #[.slice a1 len1 cap1, .string s1] 36)) w.heap.size 36 #[.slice a0 len0 cap0, .string s0] := (Blk.new w _ _).alloc _
  have hA1 : Blk ((w.alloc (.cells #[.slice a0 len0 cap0, .string s0] 36)).alloc (.cells #[.slice a1 len1 cap1, .string s1] 36)) (w.heap.size + 1) 36 #[.slice a1 len1 cap1, .string s1] := by
    have := Blk.new (w.alloc (.cells #[.slice a0 len0 cap0, .string s0] 36)) 36 #[.slice a1 len1 cap1, .string s1]
    rwa [World.size_alloc] at this
  have hz0 : ((w.alloc (.cells #[.slice a0 len0 cap0, .string s0] 36)).alloc (.cells #[.slice a1 len1 cap1, .string s1] 36)).heap.size = w.heap.size + 1 + 1 := by simp
  have HB0 := Lib.hid hB0
  have HSZ := Lib.hid (szTree_any a0 len0 cap0 1048576 z0 s0 ((w.alloc (.cells #[.slice a0 len0 cap0, .string s0] 36)).alloc (.cells #[.slice a1 len1 cap1, .string s1] 36)) (hrs.below hB0) (by omega) (by omega) hlen hzl hsl)
  rw [hz0] at HSZ
  have HRS : Hid (∀ W : World, Below (w.heap.size + 1 + 1) ((w.alloc (.cells #[.slice a0 len0 cap0, .string s0] 36)).alloc (.cells #[.slice a1 len1 cap1, .string s1] 36)) W → RS W a0 len0 z0 ∧ RS W a1 len1 z1) := fun W hW =>
    ⟨(hrs.below hB0).below (by rw [hz0]; exact hW), (hrs'.below hB0).below (by rw [hz0]; exact hW)⟩
  have HBX : Hid (∀ W : World, Below (w.heap.size + 1 + 1) ((w.alloc (.cells #[.slice a0 len0 cap0, .string s0] 36)).alloc (.cells #[.slice a1 len1 cap1, .string s1] 36)) W → W.cell? ⟨w.heap.size, 0, none⟩ = some (.slice a0 len0 cap0) ∧ W.cell? ⟨w.heap.size, 1, none⟩ = some (.string s0) ∧ W.cell? ⟨w.heap.size + 1, 0, none⟩ = some (.slice a1 len1 cap1) ∧ W.cell? ⟨w.heap.size + 1, 1, none⟩ = some (.string s1) ∧ w.heap.size + 1 < W.heap.size) := fun W hW =>
    ⟨(hA0.below hW (by omega)).cell 0, (hA0.below hW (by omega)).cell 1, (hA1.below hW (by omega)).cell 0, (hA1.below hW (by omega)).cell 1, (hA1.below hW (by omega)).lt⟩
  have HSZ2 : Hid (∀ (r : Int) (W : World), 0 ≤ r → r ≤ 1048576 → Below (w.heap.size + 1 + 1) ((w.alloc (.cells #[.slice a0 len0 cap0, .string s0] 36)).alloc (.cells #[.slice a1 len1 cap1, .string s1] 36)) W → Calls Tryd.prog 23 #[.agg #[.slice a1 len1 cap1, .string s1], .int .i64 r] W fun e w' => ∃ q : Int, e = .returned (.int .i64 q) ∧ -1 ≤ q ∧ q ≤ r ∧ (0 ≤ q → (len1 : Int) ≤ r ∧ (s1.size : Int) ≤ r ∧ ∀ s ∈ z1, (s.size : Int) ≤ r) ∧ Below W.heap.size W w') := fun r W h0 h1 hW => szTree_any a1 len1 cap1 r z1 s1 W (HRS.out W hW).2 h0 h1 hlen' hzl' hsl'
  clear hB0 hA0 hA1 hz0 hrs hrs'
  go_enter Tryd.func8, Tryd.ntmps8
  go_wp2_with fail
  refine HSZ.out.mono ?_
  rintro e w1 ⟨r, rfl, hr0, hr1, hr2, hc1⟩
  obtain ⟨k0, k1, k2, k3, kl⟩ := HBX.out w1 hc1
  have HE1 := Lib.hid (HB0.out.trans (hc1.mono (by omega)))
  have HR := Lib.hid hr2
  clear hr2 HSZ
  by_cases hr : r < 0
  · go_wp2
    go_ret
    exact ⟨rfl, HE1.out⟩
  obtain ⟨h1, h2, h3⟩ := HR.out (by omega)
  have hn : len0 ≤ 1048576 := by omega
  have HL : Hid ((∀ s ∈ z0, s.size ≤ 1048576) ∧ s0.size ≤ 1048576) := ⟨fun s hs => by have := h3 s hs; omega, by omega⟩
  have HSZ3 := Lib.hid (HSZ2.out r w1 (by omega) hr1 hc1)
  clear h1 h2 h3 HR HSZ2 hzl hsl hlen
  go_wp2_with fail
  refine HSZ3.out.mono ?_
  rintro e w1 ⟨r', rfl, hr0', hr1', hr2, hcx⟩
  have hc1 := hc1.trans (hcx.mono (by omega))
  clear k0 k1 k2 k3 kl hcx
  obtain ⟨k0, k1, k2, k3, kl⟩ := HBX.out w1 hc1
  have HE1 := Lib.hid (HB0.out.trans (hc1.mono (by omega)))
  have HR := Lib.hid hr2
  clear hr2 HSZ3
  by_cases hr' : r' < 0
  · go_wp2
    go_ret
    exact ⟨rfl, HE1.out⟩
  obtain ⟨h1, h2, h3⟩ := HR.out (by omega)
  have hm : len1 ≤ 1048576 := by omega
  have HL' : Hid ((∀ s ∈ z1, s.size ≤ 1048576) ∧ s1.size ≤ 1048576) := ⟨fun s hs => by have := h3 s hs; omega, by omega⟩
  have HTO : Hid (∀ W : World, Below (w.heap.size + 1 + 1) ((w.alloc (.cells #[.slice a0 len0 cap0, .string s0] 36)).alloc (.cells #[.slice a1 len1 cap1, .string s1] 36)) W → Calls Tryd.prog 25 #[.agg #[.slice a0 len0 cap0, .string s0]] W fun e w' => ∃ B : Addr, e = .returned (.agg #[.slice (some B) len0 len0, .string s0]) ∧ w'.ownsRow W.heap.size 9 1 (.slice (some B) len0 len0) len0 (svL z0) ∧ Below W.heap.size W w') := fun W hW => toTree_any a0 len0 cap0 z0 s0 W (HRS.out W hW).1 hn
  have HTU : Hid (∀ W : World, Below (w.heap.size + 1 + 1) ((w.alloc (.cells #[.slice a0 len0 cap0, .string s0] 36)).alloc (.cells #[.slice a1 len1 cap1, .string s1] 36)) W → Calls Tryd.prog 25 #[.agg #[.slice a1 len1 cap1, .string s1]] W fun e w' => ∃ B : Addr, e = .returned (.agg #[.slice (some B) len1 len1, .string s1]) ∧ w'.ownsRow W.heap.size 9 1 (.slice (some B) len1 len1) len1 (svL z1) ∧ Below W.heap.size W w') := fun W hW => toTree_any a1 len1 cap1 z1 s1 W (HRS.out W hW).2 hm
  have HEQ : Hid (∀ (W : World) (B C : Addr), RS W (some B) len0 z0 → RS W (some C) len0 z0 → Calls Tryd.prog 18 #[.agg #[.slice (some B) len0 len0, .string s0], .agg #[.slice (some C) len0 len0, .string s0]] W fun e w' => e = .returned (.bool true) ∧ Below W.heap.size W w') := fun W B C h h' => by
    have := eqTree_any (some B) (some C) len0 len0 len0 len0 z0 z0 s0 s0 W h h' hn
    rwa [decide_eq_true rfl, decide_eq_true rfl] at this
  have HEU : Hid (∀ (W : World) (B C : Addr), RS W (some B) len1 z1 → RS W (some C) len1 z1 → Calls Tryd.prog 18 #[.agg #[.slice (some B) len1 len1, .string s1], .agg #[.slice (some C) len1 len1, .string s1]] W fun e w' => e = .returned (.bool true) ∧ Below W.heap.size W w') := fun W B C h h' => by
    have := eqTree_any (some B) (some C) len1 len1 len1 len1 z1 z1 s1 s1 W h h' hm
    rwa [decide_eq_true rfl, decide_eq_true rfl] at this
  have HSP : Hid (∀ (W : World) (B C : Addr), RS W (some B) len0 z0 → RS W (some C) len1 z1 → Calls Tryd.prog 29 #[.agg #[.slice (some B) len0 len0, .string s0], .agg #[.slice (some C) len1 len1, .string s1]] W (AskPost (BelQ z0 z1 s0 s1) W)) := fun W B C h h' => specBelow_any (some B) (some C) len0 len1 len0 len1 z0 z1 s0 s1 W h h' hn hm HL.out.1 HL'.out.1
  have HIM : Hid (∀ (W : World) (B C : Addr), RS W (some B) len0 z0 → RS W (some C) len1 z1 → Calls Tryd.prog 30 #[.agg #[.slice (some B) len0 len0, .string s0], .agg #[.slice (some C) len1 len1, .string s1]] W (AskPost (BelQ z0 z1 s0 s1) W)) := fun W B C h h' => implBelow_any (some B) (some C) len0 len1 len0 len1 z0 z1 s0 s1 W h h' hn hm HL.out.1 HL'.out.1 HL.out.2 HL'.out.2
  clear h1 h2 h3 HR hzl' hsl' hlen'
  go_wp2_with fail
  have k0 : w1.drew.cell? ⟨w.heap.size, 0, none⟩ = some (.slice a0 len0 cap0) := k0
  have k1 : w1.drew.cell? ⟨w.heap.size, 1, none⟩ = some (.string s0) := k1
  have k2 : w1.drew.cell? ⟨w.heap.size + 1, 0, none⟩ = some (.slice a1 len1 cap1) := k2
  have k3 : w1.drew.cell? ⟨w.heap.size + 1, 1, none⟩ = some (.string s1) := k3
  refine wp_region_held_drew (S := (fun w' => w'.cell? ⟨w.heap.size, 0, none⟩ = some (.slice a0 len0 cap0) ∧ w'.cell? ⟨w.heap.size, 1, none⟩ = some (.string s0) ∧ w'.cell? ⟨w.heap.size + 1, 0, none⟩ = some (.slice a1 len1 cap1) ∧ w'.cell? ⟨w.heap.size + 1, 1, none⟩ = some (.string s1))) (by kernel_rfl) ?_ (fun hHeld => ?_)
  · exact ⟨k0, k1, k2, k3⟩
  refine wpAnyH_take (i := 0) (v := .agg #[.slice a0 len0 cap0, .string s0]) (by rw [List.getElem?_toArray]; rfl) (by kernel_rfl) (by kernel_rfl) (by kernel_rfl) (by exact fun _ _ _ h => h) (Or.inl ⟨by rfl, fun w hSw => by (try dsimp only at hSw); go_simp⟩) (by assumption) ?_
  try simp only [Act.put, List.setIfInBounds_toArray, List.set_cons_zero, List.set_cons_succ]
  refine wpAnyH_take (i := 2) (v := .agg #[.slice a1 len1 cap1, .string s1]) (by rw [List.getElem?_toArray]; rfl) (by kernel_rfl) (by kernel_rfl) (by kernel_rfl) (by exact fun _ _ _ h => h) (Or.inl ⟨by rfl, fun w hSw => by (try dsimp only at hSw); go_simp⟩) (by assumption) ?_
  try simp only [Act.put, List.setIfInBounds_toArray, List.set_cons_zero, List.set_cons_succ]
  refine wpAnyH_ready (rs := [1]) (by kernel_rfl) (by simp) ?_
  refine AllReadyH.cons (o := _) (by rw [List.getElem?_toArray]; rfl) (fun K hK => ?_) AllReadyH.nil
  go_simp
  refine (HTO.out _ ?_).mono ?_
  · exact hc1.drew
  rintro e w2 ⟨B1, rfl, ho2, hb2⟩
  have hb2 : Below w1.heap.size w1 w2 := ⟨hb2.os, hb2.tape, hb2.output, hb2.size, fun k hk => hb2.block k hk⟩
  have hr2 := RS.of_own ho2
  have hc2 := hc1.trans (hb2.mono (by omega))
  obtain ⟨k0, k1, k2, k3, kl2⟩ := HBX.out w2 hc2
  refine hK.out _ _ ?_ (fun hHeld1 => ?_)
  · exact ⟨k0, k1, k2, k3⟩
  clear hK K
  try simp only [Act.put, List.setIfInBounds_toArray, List.set_cons_zero, List.set_cons_succ]
  refine wpAnyH_ready (rs := [3]) (by kernel_rfl) (by simp) ?_
  refine AllReadyH.cons (o := _) (by rw [List.getElem?_toArray]; rfl) (fun K hK => ?_) AllReadyH.nil
  go_simp
  refine (HTU.out _ ?_).mono ?_
  · exact hc2
  rintro e w3 ⟨B2, rfl, ho3, hb3⟩
  have hr3 := RS.of_own ho3
  have hr2 := hr2.below hb3
  have hc3 := hc2.trans (hb3.mono (by omega))
  obtain ⟨k0, k1, k2, k3, kl3⟩ := HBX.out w3 hc3
  refine hK.out _ _ ?_ (fun hHeld3 => ?_)
  · exact ⟨k0, k1, k2, k3⟩
  clear hK K
  try simp only [Act.put, List.setIfInBounds_toArray, List.set_cons_zero, List.set_cons_succ]
  refine wpAnyH_ready (rs := [4]) (by kernel_rfl) (by simp) ?_
  refine AllReadyH.cons (o := _) (by rw [List.getElem?_toArray]; rfl) (fun K hK => ?_) AllReadyH.nil
  go_simp
  refine (HSP.out _ B1 B2 ?_ ?_).mono ?_
  · exact hr2
  · exact hr3
  rintro e w4 ⟨b, rfl, hbs, hb4⟩
  have hc4 := hc3.trans (hb4.mono (by omega))
  obtain ⟨k0, k1, k2, k3, kl4⟩ := HBX.out w4 hc4
  refine hK.out _ _ ?_ (fun hHeld4 => ?_)
  · exact ⟨k0, k1, k2, k3⟩
  clear hK K
  try simp only [Act.put, List.setIfInBounds_toArray, List.set_cons_zero, List.set_cons_succ]
  refine wpAnyH_take (i := 5) (v := .bool b) (by rw [List.getElem?_toArray]; rfl) (by kernel_rfl) (by kernel_rfl) (by kernel_rfl) (by exact fun _ _ _ h => h) (Or.inl ⟨by rfl, fun w hSw => by (try dsimp only at hSw); go_simp⟩) (by assumption) ?_
  try simp only [Act.put, List.setIfInBounds_toArray, List.set_cons_zero, List.set_cons_succ]
  refine wpAnyH_done (by kernel_rfl) ?_ _
  clear hHeld hc1 hc2 hc3 hb2 hb3 hb4 ho2 ho3 hr2 hr3 kl kl2 kl3 HSP
  go_wp2_with fail
  refine (HTO.out _ hc4).mono ?_
  rintro e w5 ⟨B3, rfl, ho5, hb5⟩
  have hc5 := hc4.trans (hb5.mono (by omega))
  clear hc4 hb5 k0 k1 k2 k3
  obtain ⟨k0, k1, k2, k3, kl5⟩ := HBX.out w5 hc5
  have hx0 := Blk.new w5 29 #[.slice (some B3) len0 len0, .string s0]
  have hr0 := RS.of_own (ho5.alloc (.cells #[.slice (some B3) len0 len0, .string s0] 29))
  have hc6 := hc5.alloc (show w.heap.size + 1 + 1 ≤ w5.heap.size from kl5) (.cells #[.slice (some B3) len0 len0, .string s0] 29)
  have hz6 : (w5.alloc (.cells #[.slice (some B3) len0 len0, .string s0] 29)).heap.size = w5.heap.size + 1 := by simp
  have HC6 := Lib.hid (HTU.out _ hc6)
  have HK6 := Lib.hid hc6
  have HX6 := Lib.hid hx0
  have HR6 := Lib.hid hr0
  have HZ6 := Lib.hid hz6
  clear ho5 hc5 hx0 hr0 hc6 hz6
  go_wp2_with fail
  refine HC6.out.mono ?_
  rintro e w7 ⟨B4, rfl, ho7, hb7⟩
  have hx0 := HX6.out.below hb7 (by rw [HZ6.out]; omega)
  have hr0 := HR6.out.below hb7
  have hc7 := HK6.out.trans (hb7.mono (by rw [HZ6.out]; omega))
  clear hb7 HC6 HX6 HR6 HZ6 HK6 k0 k1 k2 k3
  obtain ⟨k0, k1, k2, k3, kl7⟩ := HBX.out w7 hc7
  have hx0 := hx0.alloc (.cells #[.slice (some B4) len1 len1, .string s1] 29)
  have hr0 := hr0.below ((Below.refl w7.heap.size w7).alloc (Nat.le_refl _) (.cells #[.slice (some B4) len1 len1, .string s1] 29))
  have hx1 := Blk.new w7 29 #[.slice (some B4) len1 len1, .string s1]
  have hr1 := RS.of_own (ho7.alloc (.cells #[.slice (some B4) len1 len1, .string s1] 29))
  have hc8 := hc7.alloc (show w.heap.size + 1 + 1 ≤ w7.heap.size from kl7) (.cells #[.slice (some B4) len1 len1, .string s1] 29)
  have hx00 := hx0.cell 0
  have hx01 := hx0.cell 1
  have hx0l := hx0.lt
  simp only [List.getElem?_toArray] at hx00 hx01
  have HC8 := Lib.hid (HIM.out _ B3 B4 hr0 hr1)
  have HK8 := Lib.hid hc8
  have HX0 := Lib.hid hx0
  have HX1 := Lib.hid hx1
  have HR0 := Lib.hid hr0
  have HR1 := Lib.hid hr1
  have hz8 : w.heap.size + 1 + 1 ≤ (w7.alloc (.cells #[.slice (some B4) len1 len1, .string s1] 29)).heap.size := by rw [World.size_alloc]; omega
  have HZ8 := Lib.hid hz8
  clear ho7 hc7 hx0 hr0 hx1 hr1 hc8 hz8
  go_wp2_with fail
  refine HC8.out.mono ?_
  rintro e w9 ⟨b', rfl, hbi, hb9⟩
  obtain rfl : b' = b := by rw [Bool.eq_iff_iff, hbi, hbs]
  have hbb : (b' != b') = false := by simp
  have hx0 := HX0.out.below hb9 HX0.out.lt
  have hx1 := HX1.out.below hb9 HX1.out.lt
  have hr0 := HR0.out.below hb9
  have hr1 := HR1.out.below hb9
  have hc9 := HK8.out.trans (hb9.mono HZ8.out)
  clear hbs hbi hb9 HC8 HX0 HX1 HR0 HR1 HK8 HZ8 hx00 hx01 hx0l k0 k1 k2 k3
  obtain ⟨k0, k1, k2, k3, kl9⟩ := HBX.out w9 hc9
  have HX0 := Lib.hid hx0
  have HX1 := Lib.hid hx1
  have HR0 := Lib.hid hr0
  have HR1 := Lib.hid hr1
  have xl0 := hx0.lt
  have xl1 := hx1.lt
  clear hx0 hx1 hr0 hr1
  go_wp2_with fail
  have hx0 := HX0.out
  have hx1 := HX1.out
  have hr0 := HR0.out
  have hr1 := HR1.out
  have x0 : w9.drew.cell? ⟨w5.heap.size, 0, none⟩ = some (.slice (some B3) len0 len0) := hx0.cell 0
  have x1 : w9.drew.cell? ⟨w5.heap.size, 1, none⟩ = some (.string s0) := hx0.cell 1
  have k0 : w9.drew.cell? ⟨w.heap.size, 0, none⟩ = some (.slice a0 len0 cap0) := k0
  have k1 : w9.drew.cell? ⟨w.heap.size, 1, none⟩ = some (.string s0) := k1
  have k2 : w9.drew.cell? ⟨w.heap.size + 1, 0, none⟩ = some (.slice a1 len1 cap1) := k2
  have k3 : w9.drew.cell? ⟨w.heap.size + 1, 1, none⟩ = some (.string s1) := k3
  refine wp_region_held_drew (S := (fun w' => w'.cell? ⟨w5.heap.size, 0, none⟩ = some (.slice (some B3) len0 len0) ∧ w'.cell? ⟨w5.heap.size, 1, none⟩ = some (.string s0) ∧ w'.cell? ⟨w.heap.size, 0, none⟩ = some (.slice a0 len0 cap0) ∧ w'.cell? ⟨w.heap.size, 1, none⟩ = some (.string s0))) (by kernel_rfl) ?_ (fun hHeld => ?_)
  · exact ⟨x0, x1, k0, k1⟩
  refine wpAnyH_take (i := 0) (v := .agg #[.slice (some B3) len0 len0, .string s0]) (by rw [List.getElem?_toArray]; rfl) (by kernel_rfl) (by kernel_rfl) (by kernel_rfl) (by exact fun _ _ _ h => h) (Or.inl ⟨by rfl, fun w hSw => by (try dsimp only at hSw); go_simp⟩) (by assumption) ?_
  try simp only [Act.put, List.setIfInBounds_toArray, List.set_cons_zero, List.set_cons_succ]
  refine wpAnyH_take (i := 1) (v := .agg #[.slice a0 len0 cap0, .string s0]) (by rw [List.getElem?_toArray]; rfl) (by kernel_rfl) (by kernel_rfl) (by kernel_rfl) (by exact fun _ _ _ h => h) (Or.inl ⟨by rfl, fun w hSw => by (try dsimp only at hSw); go_simp⟩) (by assumption) ?_
  try simp only [Act.put, List.setIfInBounds_toArray, List.set_cons_zero, List.set_cons_succ]
  refine wpAnyH_ready (rs := [2]) (by kernel_rfl) (by simp) ?_
  refine AllReadyH.cons (o := _) (by rw [List.getElem?_toArray]; rfl) (fun K hK => ?_) AllReadyH.nil
  go_simp
  refine (HTO.out _ ?_).mono ?_
  · exact hc9.drew
  rintro e v1 ⟨Cu1, rfl, hov, hbv⟩
  have hbv : Below w9.heap.size w9 v1 := ⟨hbv.os, hbv.tape, hbv.output, hbv.size, fun k hk => hbv.block k hk⟩
  have hcv := hc9.trans (hbv.mono (by omega))
  obtain ⟨k0, k1, k2, k3, klv⟩ := HBX.out v1 hcv
  have hx0 := hx0.below hbv hx0.lt
  have hx1 := hx1.below hbv hx1.lt
  have hr0 := hr0.below hbv
  have hr1 := hr1.below hbv
  have x0 : v1.cell? ⟨w5.heap.size, 0, none⟩ = some (.slice (some B3) len0 len0) := hx0.cell 0
  have x1 : v1.cell? ⟨w5.heap.size, 1, none⟩ = some (.string s0) := hx0.cell 1
  refine hK.out _ _ ?_ (fun hHeld2 => ?_)
  · exact ⟨x0, x1, k0, k1⟩
  clear hK K
  try simp only [Act.put, List.setIfInBounds_toArray, List.set_cons_zero, List.set_cons_succ]
  refine wpAnyH_ready (rs := [3]) (by kernel_rfl) (by simp) ?_
  refine AllReadyH.cons (o := _) (by rw [List.getElem?_toArray]; rfl) (fun K hK => ?_) AllReadyH.nil
  go_simp
  refine (HEQ.out _ B3 Cu1 ?_ ?_).mono ?_
  · exact hr0
  · exact RS.of_own hov
  rintro e u1 ⟨rfl, hbu⟩
  have hc1 := hcv.trans (hbu.mono (by omega))
  obtain ⟨k0, k1, k2, k3, kl1⟩ := HBX.out u1 hc1
  have hx0 := hx0.below hbu hx0.lt
  have hx1 := hx1.below hbu hx1.lt
  have hr0 := hr0.below hbu
  have hr1 := hr1.below hbu
  have x0 : u1.cell? ⟨w5.heap.size, 0, none⟩ = some (.slice (some B3) len0 len0) := hx0.cell 0
  have x1 : u1.cell? ⟨w5.heap.size, 1, none⟩ = some (.string s0) := hx0.cell 1
  refine hK.out _ _ ?_ (fun hHeld3 => ?_)
  · exact ⟨x0, x1, k0, k1⟩
  clear hK K
  try simp only [Act.put, List.setIfInBounds_toArray, List.set_cons_zero, List.set_cons_succ]
  refine wpAnyH_take (i := 4) (v := .bool false) (by rw [List.getElem?_toArray]; rfl) (by kernel_rfl) (by kernel_rfl) (by kernel_rfl) (by exact fun _ _ _ h => h) (Or.inl ⟨by rfl, fun w hSw => by (try dsimp only at hSw); go_simp⟩) (by assumption) ?_
  try simp only [Act.put, List.setIfInBounds_toArray, List.set_cons_zero, List.set_cons_succ]
  refine wpAnyH_done (by kernel_rfl) ?_ _
  clear hHeld hbv hov hcv hbu HX0 HX1 HR0 HR1 xl0 xl1 klv hc9
  have HX0 := Lib.hid hx0
  have HX1 := Lib.hid hx1
  have HR0 := Lib.hid hr0
  have HR1 := Lib.hid hr1
  clear hx0 hx1 hr0 hr1 x0 x1
  go_wp2_with fail
  have hx0 := HX0.out
  have hx1 := HX1.out
  have hr0 := HR0.out
  have hr1 := HR1.out
  have x0 : u1.drew.cell? ⟨w7.heap.size, 0, none⟩ = some (.slice (some B4) len1 len1) := hx1.cell 0
  have x1 : u1.drew.cell? ⟨w7.heap.size, 1, none⟩ = some (.string s1) := hx1.cell 1
  have k0 : u1.drew.cell? ⟨w.heap.size, 0, none⟩ = some (.slice a0 len0 cap0) := k0
  have k1 : u1.drew.cell? ⟨w.heap.size, 1, none⟩ = some (.string s0) := k1
  have k2 : u1.drew.cell? ⟨w.heap.size + 1, 0, none⟩ = some (.slice a1 len1 cap1) := k2
  have k3 : u1.drew.cell? ⟨w.heap.size + 1, 1, none⟩ = some (.string s1) := k3
  refine wp_region_held_drew (S := (fun w' => w'.cell? ⟨w7.heap.size, 0, none⟩ = some (.slice (some B4) len1 len1) ∧ w'.cell? ⟨w7.heap.size, 1, none⟩ = some (.string s1) ∧ w'.cell? ⟨w.heap.size + 1, 0, none⟩ = some (.slice a1 len1 cap1) ∧ w'.cell? ⟨w.heap.size + 1, 1, none⟩ = some (.string s1))) (by kernel_rfl) ?_ (fun hHeld => ?_)
  · exact ⟨x0, x1, k2, k3⟩
  refine wpAnyH_take (i := 0) (v := .agg #[.slice (some B4) len1 len1, .string s1]) (by rw [List.getElem?_toArray]; rfl) (by kernel_rfl) (by kernel_rfl) (by kernel_rfl) (by exact fun _ _ _ h => h) (Or.inl ⟨by rfl, fun w hSw => by (try dsimp only at hSw); go_simp⟩) (by assumption) ?_
  try simp only [Act.put, List.setIfInBounds_toArray, List.set_cons_zero, List.set_cons_succ]
  refine wpAnyH_take (i := 1) (v := .agg #[.slice a1 len1 cap1, .string s1]) (by rw [List.getElem?_toArray]; rfl) (by kernel_rfl) (by kernel_rfl) (by kernel_rfl) (by exact fun _ _ _ h => h) (Or.inl ⟨by rfl, fun w hSw => by (try dsimp only at hSw); go_simp⟩) (by assumption) ?_
  try simp only [Act.put, List.setIfInBounds_toArray, List.set_cons_zero, List.set_cons_succ]
  refine wpAnyH_ready (rs := [2]) (by kernel_rfl) (by simp) ?_
  refine AllReadyH.cons (o := _) (by rw [List.getElem?_toArray]; rfl) (fun K hK => ?_) AllReadyH.nil
  go_simp
  refine (HTU.out _ ?_).mono ?_
  · exact hc1.drew
  rintro e v1 ⟨Cu2, rfl, hov, hbv⟩
  have hbv : Below u1.heap.size u1 v1 := ⟨hbv.os, hbv.tape, hbv.output, hbv.size, fun k hk => hbv.block k hk⟩
  have hcv := hc1.trans (hbv.mono (by omega))
  obtain ⟨k0, k1, k2, k3, klv⟩ := HBX.out v1 hcv
  have hx0 := hx0.below hbv hx0.lt
  have hx1 := hx1.below hbv hx1.lt
  have hr0 := hr0.below hbv
  have hr1 := hr1.below hbv
  have x0 : v1.cell? ⟨w7.heap.size, 0, none⟩ = some (.slice (some B4) len1 len1) := hx1.cell 0
  have x1 : v1.cell? ⟨w7.heap.size, 1, none⟩ = some (.string s1) := hx1.cell 1
  refine hK.out _ _ ?_ (fun hHeld2 => ?_)
  · exact ⟨x0, x1, k2, k3⟩
  clear hK K
  try simp only [Act.put, List.setIfInBounds_toArray, List.set_cons_zero, List.set_cons_succ]
  refine wpAnyH_ready (rs := [3]) (by kernel_rfl) (by simp) ?_
  refine AllReadyH.cons (o := _) (by rw [List.getElem?_toArray]; rfl) (fun K hK => ?_) AllReadyH.nil
  go_simp
  refine (HEU.out _ B4 Cu2 ?_ ?_).mono ?_
  · exact hr1
  · exact RS.of_own hov
  rintro e u2 ⟨rfl, hbu⟩
  have hc2 := hcv.trans (hbu.mono (by omega))
  obtain ⟨k0, k1, k2, k3, kl2⟩ := HBX.out u2 hc2
  have hx0 := hx0.below hbu hx0.lt
  have hx1 := hx1.below hbu hx1.lt
  have hr0 := hr0.below hbu
  have hr1 := hr1.below hbu
  have x0 : u2.cell? ⟨w7.heap.size, 0, none⟩ = some (.slice (some B4) len1 len1) := hx1.cell 0
  have x1 : u2.cell? ⟨w7.heap.size, 1, none⟩ = some (.string s1) := hx1.cell 1
  refine hK.out _ _ ?_ (fun hHeld3 => ?_)
  · exact ⟨x0, x1, k2, k3⟩
  clear hK K
  try simp only [Act.put, List.setIfInBounds_toArray, List.set_cons_zero, List.set_cons_succ]
  refine wpAnyH_take (i := 4) (v := .bool false) (by rw [List.getElem?_toArray]; rfl) (by kernel_rfl) (by kernel_rfl) (by kernel_rfl) (by exact fun _ _ _ h => h) (Or.inl ⟨by rfl, fun w hSw => by (try dsimp only at hSw); go_simp⟩) (by assumption) ?_
  try simp only [Act.put, List.setIfInBounds_toArray, List.set_cons_zero, List.set_cons_succ]
  refine wpAnyH_done (by kernel_rfl) ?_ _
  clear hHeld
  have HF := Lib.hid (HB0.out.trans (hc2.mono (by omega)))
  go_wp2
  go_ret
  exact ⟨rfl, HF.out⟩

/-! ### THE ROW's STEP -/
abbrev laidL : List (String × DataW Unit) := [("unicode/utf8.acceptRanges", Rows.laid_unicode_utf8_acceptRanges), ("unicode/utf8.first", Rows.laid_unicode_utf8_first)]
theorem laidWorld_met (os : Os) (args : Array Value) : laidMetH Tryd.prog laidL ((World.laidAll Tryd.prog os laidL).forCall (fun _ _ => 0) ⟨#[], args, []⟩).memory :=
  laidMetH_of_parts (laidMet_laidAll _ (by kernel_rfl) (by kernel_rfl)) (by kernel_rfl)

set_option maxRecDepth 100000 in
theorem lifted (os : Os) (started : os.Started) (H : Type) (enc : TypeId × Value → H) :
    ReturnsInHanded {} Tryd.checked os 8 .any (fun w args => (Rows.fnExactTreeBelowSpec.pre enc Tryd.prog Tryd.f8 [] false w args ∧ laidMetH Tryd.prog laidL w) ∧ sizedMet enc Tryd.prog Tryd.f8 (OpenSpec.ofChange Rows.fnExactTreeBelowSpec) false w args) (Rows.fnExactTreeBelowSpec.post enc Tryd.prog Tryd.f8 false true false false) := by
  refine returnsInHanded_of_change_and (C := Tryd.checked) (X := fun w _ => laidMetH Tryd.prog laidL w) (fun _ _ _ hh h => h.of_heap hh) own started (by kernel_rfl) Tryd.func8
    (ChangeSpec.witness_shaped (enc := enc) (C := Tryd.checked) (os := os) (X := fun w _ => laidMetH Tryd.prog laidL w) false (World.laidAll Tryd.prog os laidL) #[.agg #[.slice none 0 0, .string ByteArray.empty], .agg #[.slice none 0 0, .string ByteArray.empty]] 8 rfl (World.shaped_of_ZipB (by kernel_rfl) (by kernel_rfl)) (by kernel_rfl) (by kernel_rfl) (by kernel_rfl) (laidWorld_met os _)) ?_
  intro W base args ds gs before hval0 hW _ _ hL _
  have hval : ∀ (j : Nat) t v, Tryd.f8.params[j]? = some t → args[j]? = some v → Value.okWide Tryd.prog W .any base t v := hval0
  have hW' := hW
  obtain ⟨p, q, hA0, hV, rfl, hfz, hnd⟩ := hW
  have hA : DataW.TrodAll enc Tryd.prog W 0 (fun _ => true) true Tryd.f8.params.toList args.toList ds p := hA0
  rw [Tryd.params8] at hA hval
  obtain ⟨v0, vs0, d0, ds0, p0, qq0, hargs, rfl, rfl, h0, r0⟩ := trodAll_cons hA
  obtain ⟨v1, vs1, d1, ds1, p1, qq1, rfl, rfl, rfl, h1, r1⟩ := trodAll_cons r0
  obtain ⟨rfl, rfl, rfl⟩ := trodAll_nil r1
  obtain rfl : args = #[v0, v1] := by cases args; simp_all
  obtain ⟨rfl, rfl⟩ := trodVars_none hV
  have k0 := h0
  have lt0 : ∀ x ∈ p0, x.block < W.heap.size := by obtain ⟨m, hm⟩ := k0; exact DataW.trod_lt m _ _ _ hm
  obtain ⟨x0, y0, u0, t0, n0, rfl, rfl, rfl, g0, l0⟩ := Go.Joins.open_agg2 Tryd.underlying36 (by kernel_rfl) (by kernel_rfl) (hval 0 36 v0 rfl rfl) h0
  obtain ⟨a0, len0, cap0, z0, rfl, q0⟩ := open_strs0 Tryd.underlying27 Tryd.underlying9 (by kernel_rfl) g0
  obtain ⟨s0, e0, f0⟩ := open_str0 Tryd.underlying9 l0
  subst e0
  have w0 : IsTree W a0 len0 z0 s0 := ⟨q0.1, q0.2.1, q0.2.2, f0⟩
  have k1 := h1
  have lt1 : ∀ x ∈ p1, x.block < W.heap.size := by obtain ⟨m, hm⟩ := k1; exact DataW.trod_lt m _ _ _ hm
  obtain ⟨x1, y1, u1, t1, n1, rfl, rfl, rfl, g1, l1⟩ := Go.Joins.open_agg2 Tryd.underlying36 (by kernel_rfl) (by kernel_rfl) (hval 1 36 v1 rfl rfl) h1
  obtain ⟨a1, len1, cap1, z1, rfl, q1⟩ := open_strs0 Tryd.underlying27 Tryd.underlying9 (by kernel_rfl) g1
  obtain ⟨s1, e1, f1⟩ := open_str0 Tryd.underlying9 l1
  subst e1
  have w1 : IsTree W a1 len1 z1 s1 := ⟨q1.1, q1.2.1, q1.2.2, f1⟩
  clear hA0 hval0
  refine (walk a0 len0 cap0 z0 s0 a1 len1 cap1 z1 s1 W trivial w0 w1).mono fun e W' ⟨he, bel⟩ => ?_
  subst he
  exact ⟨_, rfl, _, _, _, [], _, [], hW', trodAll_mk1 (shut_bool Tryd.underlying4 _), (trodAll_cons_mk (Below.trod laidOut (by kernel_rfl) (of_decide_eq_true (by kernel_rfl)) k0 bel lt0) (trodAll_cons_mk (Below.trod laidOut (by kernel_rfl) (of_decide_eq_true (by kernel_rfl)) k1 bel lt1) trodAll_mk0)), rfl, bel.frame _, fun h => by cases h⟩

theorem over : Rows.fnExactTreeBelowRow.holds Tryd.pinned (OpenSpec.ofChange Rows.fnExactTreeBelowSpec) :=
  OpenClaim.holds_of_wide 8 Tryd.f8 rfl rfl rfl rfl rfl rfl rfl ⟨rfl, rfl, rfl, rfl, rfl⟩ rfl rfl rfl rfl rfl (by kernel_rfl) Tryd.func8 (by kernel_rfl)
    (of_decide_eq_true (by kernel_rfl)) (by unfold Func.isWrapper; first | (rw [if_pos (by decide +kernel)]; kernel_rfl) | (rw [if_neg (by decide +kernel)]; exact ⟨rfl, rfl⟩))
    (fun os started H enc _ => lifted os started H enc)

theorem proved : Rows.FnExactTreeBelowCardSaid :=
  Claim7.holds_tied_plain_at .later [] [.data, .pinned] true _ false
    over (fun _ h => by cases h) (by kernel_rfl) (fun _ h => by cases h) fnExactTreeBelow_row_tie rfl ⟨rfl, rfl⟩ (by kernel_rfl) rfl
    (fun f fn hf hfn => by
      obtain rfl : f = 8 := Option.some.inj ((show Tryd.prog.funcNamed Rows.fnExactTreeBelowRow.func = some 8 by kernel_rfl).symm.trans hf) |>.symm
      obtain rfl : fn = Tryd.f8 := (Option.some.inj (Tryd.func8.symm.trans hfn)).symm
      exact ⟨by kernel_rfl, fun j t ht => by
        rw [Tryd.params8] at ht
        rcases j with _ | j
        · have h0 : t = 36 := by simpa using ht.symm
          subst h0
          exact (show Tryd.prog.wantsStandIn 36 = false by kernel_rfl)
        rcases j with _ | j
        · have h1 : t = 36 := by simpa using ht.symm
          subst h1
          exact (show Tryd.prog.wantsStandIn 36 = false by kernel_rfl)
        simp at ht⟩)
    (by kernel_rfl)
#print axioms proved
end Go.Proofs.YtlcjgppclclkoaaDoor.fnExactTreeBelow

