/-
  FnExactTreeTurned: for every input the law returns true and leaves its arguments as they were. No condition.
-/
import Derived.Test.YtlcjgppclclkoaaDoorRows
import Derived.Test.YtlcjgppclclkoaaDoorCards
import Derived.Test.YtlcjgppclclkoaaDoorTie
import Derived.Test.YtlcjgppclclkoaaDoorUO
import Derived.Test.YtlcjgppclclkoaaDoorUM
import Derived.Test.YtlcjgppclclkoaaDoorUL
import Derived.Test.YtlcjgppclclkoaaDoorUB
import Derived.Test.YtlcjgppclclkoaaDoorTV
import Derived.WalkKit
import Derived.Deep.QuietTactic
import Derived.BigQuiet
import Derived.Outline
import Derived.ProofKit
import Derived.OpenShut
import Derived.ShutString
import Derived.ChangeOld
import Derived.Below
import Derived.ChangeSame
import Derived.ChangeVars
import Derived.JoinedOf
import Derived.RowKit
import Derived.RowKitTokens
import Derived.LaidLaws
import Derived.LaidHandle
import Derived.Stop.Joined
import Derived.SevenTiedAt
import Derived.Lay
namespace Go.Proofs.YtlcjgppclclkoaaDoor.fnExactTreeTurned
set_option maxRecDepth 100000
open Go.ChangeShapes Go.WideShapes Go.ChangeAt Go.RowKit
open Go.ChangeMaps (open_string shut_string)
set_option linter.unusedVariables false

theorem own : ownKnob Tryd.prog.godebug = none := by kernel_rfl
theorem laidOut : laidOutB Tryd.prog = true := by kernel_rfl

def IsRow (k : IntKind) (w : World) (a : Option Addr) (len cap : Nat) (zs : List Int) : Prop :=
  (a = none ∧ len = 0 ∧ cap = 0 ∧ zs = []) ∨
  ∃ x, a = some x ∧ len ≤ cap ∧ cap ≤ maxLen ∧ zs.length = cap ∧ (∀ i, i < zs.length → w.cell? (x.add i) = some (.int k (zs.getD i 0))) ∧ ∀ n ∈ zs, (Lit.int k n).wf = true



set_option maxHeartbeats 3000000 in
theorem walk (a0 : Option Addr) (len0 cap0 : Nat) (z0 : List ByteArray) (s0 : ByteArray) (w : World) (het : True) (w0 : IsTree w a0 len0 z0 s0) :
    Calls Tryd.prog 12 #[.agg #[.slice a0 len0 cap0, .string s0]] w fun e w' => e = .returned (.bool true) ∧ Below w.heap.size w w' := by
  have HET := Lib.hid het
  clear het
  obtain ⟨hrs0, hlen0, hzl0, hsl0⟩ := w0
  have HA0 : Hid (∀ W : World, Below w.heap.size w W → RS W a0 len0 z0) := fun W hW => hrs0.below hW
  have HZ0 : Hid (∀ (r : Int) (W : World), 0 ≤ r → r ≤ 1048576 → Below w.heap.size w W → Calls Tryd.prog 23 #[.agg #[.slice a0 len0 cap0, .string s0], .int .i64 r] W fun e w' => ∃ q : Int, e = .returned (.int .i64 q) ∧ -1 ≤ q ∧ q ≤ r ∧ (0 ≤ q → (len0 : Int) ≤ r ∧ (s0.size : Int) ≤ r ∧ ∀ s ∈ z0, (s.size : Int) ≤ r) ∧ Below W.heap.size W w') := fun r W h0 h1 hW => szTree_any a0 len0 cap0 r z0 s0 W (hrs0.below hW) h0 h1 hlen0 hzl0 hsl0
  have HB := Lib.hid (Below.refl w.heap.size w)
  have KBa0 := Lib.hid (Blk.new w 36 #[.slice a0 len0 cap0, .string s0])
  have HB := Lib.hid (HB.out.alloc HB.out.size (.cells #[.slice a0 len0 cap0, .string s0] 36))
  clear hrs0 hlen0 hzl0 hsl0
  go_enter Tryd.func12, Tryd.ntmps12
  have HC := Lib.hid (HZ0.out 1048576 (w.alloc (.cells #[.slice a0 len0 cap0, .string s0] 36)) (by omega) (by omega) HB.out)
  go_wp2_with fail
  refine HC.out.mono ?_
  rintro e v0 ⟨r0, rfl, hr0_0, hr1_0, hr2_0, hb⟩
  have KBa0 := Lib.hid (KBa0.out.below hb KBa0.out.lt)
  have HB := Lib.hid (HB.out.trans (hb.mono HB.out.size))
  have HQ0 := Lib.hid hr2_0
  clear hb hr2_0 HC
  by_cases hr0 : r0 < 0
  · go_wp2
    go_ret
    exact ⟨rfl, HB.out⟩
  have hn0 : len0 ≤ 1048576 := by have := (HQ0.out (by omega)).1; omega
  have HS0 : Hid ((∀ s ∈ z0, s.size ≤ 1048576) ∧ s0.size ≤ 1048576) := ⟨fun s hs => by have := (HQ0.out (by omega)).2.2 s hs; omega, by have := (HQ0.out (by omega)).2.1; omega⟩
  clear HQ0 HZ0
  have HSP : Hid (∀ (W : World) (B : Addr), RS W (some B) len0 z0 → Calls Tryd.prog 37 #[.agg #[.slice (some B) len0 len0, .string s0]] W fun e' w' => ∃ R, TurnOk z0 s0 R ∧ TreePost R W e' w') := fun W B h => specTurned_any (some B) len0 len0 z0 s0 W h hn0 HS0.out.1
  have HIM : Hid (∀ (W : World) (B : Addr), RS W (some B) len0 z0 → Calls Tryd.prog 38 #[.agg #[.slice (some B) len0 len0, .string s0]] W fun e' w' => ∃ R, TurnOk z0 s0 R ∧ TreePost R W e' w') := fun W B h => implTurned_any (some B) len0 len0 z0 s0 W h hn0 HS0.out.1 HS0.out.2
  have HC := Lib.hid (toTree_any a0 len0 cap0 z0 s0 v0 (HA0.out _ HB.out) hn0)
  have ka00 : v0.cell? ⟨w.heap.size, 0, none⟩ = some (.slice a0 len0 cap0) := KBa0.out.cell 0
  have ka01 : v0.cell? ⟨w.heap.size, 1, none⟩ = some (.string s0) := KBa0.out.cell 1
  have ka0l : w.heap.size < v0.heap.size := KBa0.out.lt
  go_wp2_with fail
  refine HC.out.mono ?_
  rintro e u1 ⟨Bt1, rfl, ho, hb⟩
  clear ka00 ka01 ka0l
  have HLt1 : Hid (w.heap.size ≤ v0.heap.size) := HB.out.size
  have KBa0 := Lib.hid (KBa0.out.below hb KBa0.out.lt)
  have HB := Lib.hid (HB.out.trans (hb.mono HB.out.size))
  have HRt1 := Lib.hid ho
  clear hb ho HC
  have HC := Lib.hid (HSP.out u1 Bt1 (RS.of_own HRt1.out))
  have ka00 : u1.cell? ⟨w.heap.size, 0, none⟩ = some (.slice a0 len0 cap0) := KBa0.out.cell 0
  have ka01 : u1.cell? ⟨w.heap.size, 1, none⟩ = some (.string s0) := KBa0.out.cell 1
  have ka0l : w.heap.size < u1.heap.size := KBa0.out.lt
  go_wp2_with fail
  refine HC.out.mono ?_
  rintro e u2 ⟨R, hRs, hb, As, ns, cs, rfl, ho⟩
  have HOK := Lib.hid hRs
  clear ka00 ka01 ka0l
  have APt1_s := Lib.hid (apart_of4 HRt1.out (Nat.le_refl _) ho)
  have HLs : Hid (w.heap.size ≤ u1.heap.size) := HB.out.size
  have KBa0 := Lib.hid (KBa0.out.below hb KBa0.out.lt)
  have HRt1 := Lib.hid (own_below0 HRt1.out hb)
  have HB := Lib.hid (HB.out.trans (hb.mono HB.out.size))
  have HRs := Lib.hid ho
  have hns : ns ≤ 60 := by rw [← own_len HRs.out]; exact HOK.out.len
  clear hb ho HC hRs
  have KLa0 : Hid (w.heap.size < u2.heap.size) := KBa0.out.lt
  have KBa0 := Lib.hid (KBa0.out.alloc (.cells #[.slice As ns cs, .string (resE R)] 29))
  have HRt1 := Lib.hid (HRt1.out.alloc (.cells #[.slice As ns cs, .string (resE R)] 29))
  have HRs := Lib.hid (HRs.out.alloc (.cells #[.slice As ns cs, .string (resE R)] 29))
  have KBbs := Lib.hid (Blk.new u2 29 #[.slice As ns cs, .string (resE R)])
  have HB := Lib.hid (HB.out.alloc HB.out.size (.cells #[.slice As ns cs, .string (resE R)] 29))
  clear HRt1
  have HC := Lib.hid (toTree_any a0 len0 cap0 z0 s0 (u2.alloc (.cells #[.slice As ns cs, .string (resE R)] 29)) (HA0.out _ HB.out) hn0)
  have ka00 : u2.cell? ⟨w.heap.size, 0, none⟩ = some (.slice a0 len0 cap0) := by have := KBa0.out.cell 0; rwa [World.cell?_alloc_lt _ _ _ (KLa0.out)] at this
  have ka01 : u2.cell? ⟨w.heap.size, 1, none⟩ = some (.string s0) := by have := KBa0.out.cell 1; rwa [World.cell?_alloc_lt _ _ _ (KLa0.out)] at this
  have ka0l : w.heap.size < u2.heap.size := KLa0.out
  go_wp2_with fail
  refine HC.out.mono ?_
  rintro e u3 ⟨Bxx, rfl, ho, hb⟩
  clear ka00 ka01 ka0l
  have APs_xx := Lib.hid (apart_of4 HRs.out (Nat.le_refl _) ho)
  have HLxx : Hid (w.heap.size ≤ (u2.alloc (.cells #[.slice As ns cs, .string (resE R)] 29)).heap.size) := HB.out.size
  have KBa0 := Lib.hid (KBa0.out.below hb KBa0.out.lt)
  have KBbs := Lib.hid (KBbs.out.below hb KBbs.out.lt)
  have HRs := Lib.hid (own_below0 HRs.out hb)
  have HB := Lib.hid (HB.out.trans (hb.mono HB.out.size))
  have HRxx := Lib.hid ho
  clear hb ho HC
  have KLa0 : Hid (w.heap.size < u3.heap.size) := KBa0.out.lt
  have KLbs : Hid (u2.heap.size < u3.heap.size) := KBbs.out.lt
  have KBa0 := Lib.hid (KBa0.out.alloc (.cells #[.slice (some Bxx) len0 len0, .string s0] 29))
  have KBbs := Lib.hid (KBbs.out.alloc (.cells #[.slice (some Bxx) len0 len0, .string s0] 29))
  have HRs := Lib.hid (HRs.out.alloc (.cells #[.slice (some Bxx) len0 len0, .string s0] 29))
  have HRxx := Lib.hid (HRxx.out.alloc (.cells #[.slice (some Bxx) len0 len0, .string s0] 29))
  have KBxxx := Lib.hid (Blk.new u3 29 #[.slice (some Bxx) len0 len0, .string s0])
  have HB := Lib.hid (HB.out.alloc HB.out.size (.cells #[.slice (some Bxx) len0 len0, .string s0] 29))
  have HC := Lib.hid (HIM.out (u3.alloc (.cells #[.slice (some Bxx) len0 len0, .string s0] 29)) Bxx (RS.of_own HRxx.out))
  have ka00 : u3.cell? ⟨w.heap.size, 0, none⟩ = some (.slice a0 len0 cap0) := by have := KBa0.out.cell 0; rwa [World.cell?_alloc_lt _ _ _ (KLa0.out)] at this
  have ka01 : u3.cell? ⟨w.heap.size, 1, none⟩ = some (.string s0) := by have := KBa0.out.cell 1; rwa [World.cell?_alloc_lt _ _ _ (KLa0.out)] at this
  have ka0l : w.heap.size < u3.heap.size := KLa0.out
  have kbs0 : u3.cell? ⟨u2.heap.size, 0, none⟩ = some (.slice As ns cs) := by have := KBbs.out.cell 0; rwa [World.cell?_alloc_lt _ _ _ (KLbs.out)] at this
  have kbs1 : u3.cell? ⟨u2.heap.size, 1, none⟩ = some (.string (resE R)) := by have := KBbs.out.cell 1; rwa [World.cell?_alloc_lt _ _ _ (KLbs.out)] at this
  have kbsl : u2.heap.size < u3.heap.size := KLbs.out
  go_wp2_with fail
  refine HC.out.mono ?_
  rintro e u4 ⟨R', hRg, hb, Ag, ng, cg, rfl, ho⟩
  obtain rfl := HOK.out.same hRg
  clear ka00 ka01 ka0l kbs0 kbs1 kbsl
  have APs_g := Lib.hid (apart_of4 HRs.out (Nat.le_refl _) ho)
  have APxx_g := Lib.hid (apart_of4 HRxx.out (Nat.le_refl _) ho)
  have HLg : Hid (w.heap.size ≤ (u3.alloc (.cells #[.slice (some Bxx) len0 len0, .string s0] 29)).heap.size) := HB.out.size
  have KBa0 := Lib.hid (KBa0.out.below hb KBa0.out.lt)
  have KBbs := Lib.hid (KBbs.out.below hb KBbs.out.lt)
  have KBxxx := Lib.hid (KBxxx.out.below hb KBxxx.out.lt)
  have HRs := Lib.hid (own_below0 HRs.out hb)
  have HRxx := Lib.hid (own_below0 HRxx.out hb)
  have HB := Lib.hid (HB.out.trans (hb.mono HB.out.size))
  have HRg := Lib.hid ho
  have hng : ng ≤ 60 := by rw [← own_len HRg.out]; exact HOK.out.len
  clear hb ho HC
  have KLa0 : Hid (w.heap.size < u4.heap.size) := KBa0.out.lt
  have KLbs : Hid (u2.heap.size < u4.heap.size) := KBbs.out.lt
  have KLxxx : Hid (u3.heap.size < u4.heap.size) := KBxxx.out.lt
  have KBa0 := Lib.hid (KBa0.out.alloc (.cells #[.slice Ag ng cg, .string (resE R)] 29))
  have KBbs := Lib.hid (KBbs.out.alloc (.cells #[.slice Ag ng cg, .string (resE R)] 29))
  have KBxxx := Lib.hid (KBxxx.out.alloc (.cells #[.slice Ag ng cg, .string (resE R)] 29))
  have HRs := Lib.hid (HRs.out.alloc (.cells #[.slice Ag ng cg, .string (resE R)] 29))
  have HRxx := Lib.hid (HRxx.out.alloc (.cells #[.slice Ag ng cg, .string (resE R)] 29))
  have HRg := Lib.hid (HRg.out.alloc (.cells #[.slice Ag ng cg, .string (resE R)] 29))
  have KBbg := Lib.hid (Blk.new u4 29 #[.slice Ag ng cg, .string (resE R)])
  have HB := Lib.hid (HB.out.alloc HB.out.size (.cells #[.slice Ag ng cg, .string (resE R)] 29))
  have HC := Lib.hid (eqTree_same Ag As ng ns cg cs (resL R) (resE R) _ (RS.of_own HRg.out) (RS.of_own HRs.out) (by omega))
  have hbb : (R.isSome != R.isSome) = false := by simp
  have ka00 : u4.cell? ⟨w.heap.size, 0, none⟩ = some (.slice a0 len0 cap0) := by have := KBa0.out.cell 0; rwa [World.cell?_alloc_lt _ _ _ (KLa0.out)] at this
  have ka01 : u4.cell? ⟨w.heap.size, 1, none⟩ = some (.string s0) := by have := KBa0.out.cell 1; rwa [World.cell?_alloc_lt _ _ _ (KLa0.out)] at this
  have ka0l : w.heap.size < u4.heap.size := KLa0.out
  have kbs0 : u4.cell? ⟨u2.heap.size, 0, none⟩ = some (.slice As ns cs) := by have := KBbs.out.cell 0; rwa [World.cell?_alloc_lt _ _ _ (KLbs.out)] at this
  have kbs1 : u4.cell? ⟨u2.heap.size, 1, none⟩ = some (.string (resE R)) := by have := KBbs.out.cell 1; rwa [World.cell?_alloc_lt _ _ _ (KLbs.out)] at this
  have kbsl : u2.heap.size < u4.heap.size := KLbs.out
  have kxxx0 : u4.cell? ⟨u3.heap.size, 0, none⟩ = some (.slice (some Bxx) len0 len0) := by have := KBxxx.out.cell 0; rwa [World.cell?_alloc_lt _ _ _ (KLxxx.out)] at this
  have kxxx1 : u4.cell? ⟨u3.heap.size, 1, none⟩ = some (.string s0) := by have := KBxxx.out.cell 1; rwa [World.cell?_alloc_lt _ _ _ (KLxxx.out)] at this
  have kxxxl : u3.heap.size < u4.heap.size := KLxxx.out
  go_wp2_with fail
  refine HC.out.mono ?_
  rintro e u5 ⟨rfl, hb⟩
  clear ka00 ka01 ka0l kbs0 kbs1 kbsl kxxx0 kxxx1 kxxxl
  have KBa0 := Lib.hid (KBa0.out.below hb KBa0.out.lt)
  have KBbs := Lib.hid (KBbs.out.below hb KBbs.out.lt)
  have KBxxx := Lib.hid (KBxxx.out.below hb KBxxx.out.lt)
  have KBbg := Lib.hid (KBbg.out.below hb KBbg.out.lt)
  have HRs := Lib.hid (own_below0 HRs.out hb)
  have HRxx := Lib.hid (own_below0 HRxx.out hb)
  have HRg := Lib.hid (own_below0 HRg.out hb)
  have HB := Lib.hid (HB.out.trans (hb.mono HB.out.size))
  clear hb HC hbb
  have ka00 : u5.cell? ⟨w.heap.size, 0, none⟩ = some (.slice a0 len0 cap0) := KBa0.out.cell 0
  have ka01 : u5.cell? ⟨w.heap.size, 1, none⟩ = some (.string s0) := KBa0.out.cell 1
  have ka0l : w.heap.size < u5.heap.size := KBa0.out.lt
  have kbs0 : u5.cell? ⟨u2.heap.size, 0, none⟩ = some (.slice As ns cs) := KBbs.out.cell 0
  have kbs1 : u5.cell? ⟨u2.heap.size, 1, none⟩ = some (.string (resE R)) := KBbs.out.cell 1
  have kbsl : u2.heap.size < u5.heap.size := KBbs.out.lt
  have kxxx0 : u5.cell? ⟨u3.heap.size, 0, none⟩ = some (.slice (some Bxx) len0 len0) := KBxxx.out.cell 0
  have kxxx1 : u5.cell? ⟨u3.heap.size, 1, none⟩ = some (.string s0) := KBxxx.out.cell 1
  have kxxxl : u3.heap.size < u5.heap.size := KBxxx.out.lt
  have kbg0 : u5.cell? ⟨u4.heap.size, 0, none⟩ = some (.slice Ag ng cg) := KBbg.out.cell 0
  have kbg1 : u5.cell? ⟨u4.heap.size, 1, none⟩ = some (.string (resE R)) := KBbg.out.cell 1
  have kbgl : u4.heap.size < u5.heap.size := KBbg.out.lt
  go_wp2_with fail
  have x0 : u5.drew.cell? ⟨u3.heap.size, 0, none⟩ = some (.slice (some Bxx) len0 len0) := kxxx0
  have x1 : u5.drew.cell? ⟨u3.heap.size, 1, none⟩ = some (.string s0) := kxxx1
  have y0 : u5.drew.cell? ⟨w.heap.size, 0, none⟩ = some (.slice a0 len0 cap0) := ka00
  have y1 : u5.drew.cell? ⟨w.heap.size, 1, none⟩ = some (.string s0) := ka01
  have HCT := Lib.hid (toTree_any a0 len0 cap0 z0 s0 u5.drew (HA0.out _ HB.out.drew) hn0)
  have HCK : Hid (∀ W : World, Below u5.heap.size u5 W → W.cell? ⟨u3.heap.size, 0, none⟩ = some (.slice (some Bxx) len0 len0) ∧ W.cell? ⟨u3.heap.size, 1, none⟩ = some (.string s0) ∧ W.cell? ⟨w.heap.size, 0, none⟩ = some (.slice a0 len0 cap0) ∧ W.cell? ⟨w.heap.size, 1, none⟩ = some (.string s0) ∧ RS W (some Bxx) len0 z0) := fun W hW => ⟨(KBxxx.out.below hW KBxxx.out.lt).cell 0, (KBxxx.out.below hW KBxxx.out.lt).cell 1, (KBa0.out.below hW KBa0.out.lt).cell 0, (KBa0.out.below hW KBa0.out.lt).cell 1, RS.of_own (own_below0 HRxx.out hW)⟩
  refine wp_region_held_drew (S := (fun w' => w'.cell? ⟨u3.heap.size, 0, none⟩ = some (.slice (some Bxx) len0 len0) ∧ w'.cell? ⟨u3.heap.size, 1, none⟩ = some (.string s0) ∧ w'.cell? ⟨w.heap.size, 0, none⟩ = some (.slice a0 len0 cap0) ∧ w'.cell? ⟨w.heap.size, 1, none⟩ = some (.string s0))) (by kernel_rfl) ?_ (fun hHeld => ?_)
  · exact ⟨x0, x1, y0, y1⟩
  refine wpAnyH_take (i := 0) (v := .agg #[.slice (some Bxx) len0 len0, .string s0]) (by rw [List.getElem?_toArray]; rfl) (by kernel_rfl) (by kernel_rfl) (by kernel_rfl) (by exact fun _ _ _ h => h) (Or.inl ⟨by rfl, fun w hSw => by (try dsimp only at hSw); go_simp⟩) (by assumption) ?_
  try simp only [Act.put, List.setIfInBounds_toArray, List.set_cons_zero, List.set_cons_succ]
  refine wpAnyH_take (i := 1) (v := .agg #[.slice a0 len0 cap0, .string s0]) (by rw [List.getElem?_toArray]; rfl) (by kernel_rfl) (by kernel_rfl) (by kernel_rfl) (by exact fun _ _ _ h => h) (Or.inl ⟨by rfl, fun w hSw => by (try dsimp only at hSw); go_simp⟩) (by assumption) ?_
  try simp only [Act.put, List.setIfInBounds_toArray, List.set_cons_zero, List.set_cons_succ]
  refine wpAnyH_ready (rs := [2]) (by kernel_rfl) (by simp) ?_
  refine AllReadyH.cons (o := _) (by rw [List.getElem?_toArray]; rfl) (fun K hK => ?_) AllReadyH.nil
  go_simp
  refine HCT.out.mono ?_
  rintro e q1 ⟨BB, rfl, hoq, hbq⟩
  have hbq : Below u5.heap.size u5 q1 := ⟨hbq.os, hbq.tape, hbq.output, hbq.size, fun k hk => hbq.block k hk⟩
  obtain ⟨x0, x1, y0, y1, hrx⟩ := HCK.out q1 hbq
  refine hK.out _ _ ?_ (fun hHeld2 => ?_)
  · exact ⟨x0, x1, y0, y1⟩
  clear hK K
  try simp only [Act.put, List.setIfInBounds_toArray, List.set_cons_zero, List.set_cons_succ]
  refine wpAnyH_ready (rs := [3]) (by kernel_rfl) (by simp) ?_
  refine AllReadyH.cons (o := _) (by rw [List.getElem?_toArray]; rfl) (fun K hK => ?_) AllReadyH.nil
  go_simp
  refine (eqTree_same (some Bxx) (some BB) len0 len0 len0 len0 z0 s0 _ hrx (RS.of_own hoq) hn0).mono ?_
  rintro e u6 ⟨rfl, hbu⟩
  have hb := hbq.trans (hbu.mono hbq.size)
  obtain ⟨x0, x1, y0, y1, _⟩ := HCK.out u6 hb
  refine hK.out _ _ ?_ (fun hHeld3 => ?_)
  · exact ⟨x0, x1, y0, y1⟩
  clear hK K
  try simp only [Act.put, List.setIfInBounds_toArray, List.set_cons_zero, List.set_cons_succ]
  refine wpAnyH_take (i := 4) (v := .bool false) (by rw [List.getElem?_toArray]; rfl) (by kernel_rfl) (by kernel_rfl) (by kernel_rfl) (by exact fun _ _ _ h => h) (Or.inl ⟨by rfl, fun w hSw => by (try dsimp only at hSw); go_simp⟩) (by assumption) ?_
  try simp only [Act.put, List.setIfInBounds_toArray, List.set_cons_zero, List.set_cons_succ]
  refine wpAnyH_done (by kernel_rfl) ?_ _
  clear hHeld x0 x1 y0 y1
  clear ka00 ka01 ka0l kbs0 kbs1 kbsl kxxx0 kxxx1 kxxxl kbg0 kbg1 kbgl
  have KBa0 := Lib.hid (KBa0.out.below hb KBa0.out.lt)
  have KBbs := Lib.hid (KBbs.out.below hb KBbs.out.lt)
  have KBxxx := Lib.hid (KBxxx.out.below hb KBxxx.out.lt)
  have KBbg := Lib.hid (KBbg.out.below hb KBbg.out.lt)
  have HRs := Lib.hid (own_below0 HRs.out hb)
  have HRxx := Lib.hid (own_below0 HRxx.out hb)
  have HRg := Lib.hid (own_below0 HRg.out hb)
  have HB := Lib.hid (HB.out.trans (hb.mono HB.out.size))
  clear hb hbq hbu hoq hrx HCT HCK
  have HC := Lib.hid (markTree_any _ (some Bxx) len0 len0 1 _ s0 _ HRxx.out (by omega) (by omega) (by omega))
  have ka00 : u6.cell? ⟨w.heap.size, 0, none⟩ = some (.slice a0 len0 cap0) := KBa0.out.cell 0
  have ka01 : u6.cell? ⟨w.heap.size, 1, none⟩ = some (.string s0) := KBa0.out.cell 1
  have ka0l : w.heap.size < u6.heap.size := KBa0.out.lt
  have kbs0 : u6.cell? ⟨u2.heap.size, 0, none⟩ = some (.slice As ns cs) := KBbs.out.cell 0
  have kbs1 : u6.cell? ⟨u2.heap.size, 1, none⟩ = some (.string (resE R)) := KBbs.out.cell 1
  have kbsl : u2.heap.size < u6.heap.size := KBbs.out.lt
  have kxxx0 : u6.cell? ⟨u3.heap.size, 0, none⟩ = some (.slice (some Bxx) len0 len0) := KBxxx.out.cell 0
  have kxxx1 : u6.cell? ⟨u3.heap.size, 1, none⟩ = some (.string s0) := KBxxx.out.cell 1
  have kxxxl : u3.heap.size < u6.heap.size := KBxxx.out.lt
  have kbg0 : u6.cell? ⟨u4.heap.size, 0, none⟩ = some (.slice Ag ng cg) := KBbg.out.cell 0
  have kbg1 : u6.cell? ⟨u4.heap.size, 1, none⟩ = some (.string (resE R)) := KBbg.out.cell 1
  have kbgl : u4.heap.size < u6.heap.size := KBbg.out.lt
  go_wp2_with fail
  refine HC.out.mono ?_
  rintro e u7 ⟨rfl, hown, hg⟩
  clear ka00 ka01 ka0l kbs0 kbs1 kbsl kxxx0 kxxx1 kxxxl kbg0 kbg1 kbgl
  have KBa0 := Lib.hid (KBa0.out.grown hg (own_blk_ne HRxx.out KBa0.out (by decide)).symm)
  have KBbs := Lib.hid (KBbs.out.grown hg (own_blk_ne HRxx.out KBbs.out (by decide)).symm)
  have KBxxx := Lib.hid (KBxxx.out.grown hg (own_blk_ne HRxx.out KBxxx.out (by decide)).symm)
  have KBbg := Lib.hid (KBbg.out.grown hg (own_blk_ne HRxx.out KBbg.out (by decide)).symm)
  have HRs := Lib.hid (own_apart4 HRs.out HRxx.out hg APs_xx.out)
  have HRg := Lib.hid (own_apart4 HRg.out HRxx.out hg (fun g h1 h2 => APxx_g.out g h2 h1))
  have HB := Lib.hid (HB.out.grown hg HB.out.size (fun k e => Nat.le_trans HLxx.out (HRxx.out.lt k e).1))
  have HRxx := Lib.hid hown
  clear hg hown
  clear HC
  have hq1 : ¬ ((1 : Int) + (len0 : Int) < 0) := by omega
  have HC := Lib.hid (eqTree_same Ag As ng ns cg cs (resL R) (resE R) _ (RS.of_own HRg.out) (RS.of_own HRs.out) (by omega))
  have hbb : (R.isSome != R.isSome) = false := by simp
  have ka00 : u7.cell? ⟨w.heap.size, 0, none⟩ = some (.slice a0 len0 cap0) := KBa0.out.cell 0
  have ka01 : u7.cell? ⟨w.heap.size, 1, none⟩ = some (.string s0) := KBa0.out.cell 1
  have ka0l : w.heap.size < u7.heap.size := KBa0.out.lt
  have kbs0 : u7.cell? ⟨u2.heap.size, 0, none⟩ = some (.slice As ns cs) := KBbs.out.cell 0
  have kbs1 : u7.cell? ⟨u2.heap.size, 1, none⟩ = some (.string (resE R)) := KBbs.out.cell 1
  have kbsl : u2.heap.size < u7.heap.size := KBbs.out.lt
  have kxxx0 : u7.cell? ⟨u3.heap.size, 0, none⟩ = some (.slice (some Bxx) len0 len0) := KBxxx.out.cell 0
  have kxxx1 : u7.cell? ⟨u3.heap.size, 1, none⟩ = some (.string s0) := KBxxx.out.cell 1
  have kxxxl : u3.heap.size < u7.heap.size := KBxxx.out.lt
  have kbg0 : u7.cell? ⟨u4.heap.size, 0, none⟩ = some (.slice Ag ng cg) := KBbg.out.cell 0
  have kbg1 : u7.cell? ⟨u4.heap.size, 1, none⟩ = some (.string (resE R)) := KBbg.out.cell 1
  have kbgl : u4.heap.size < u7.heap.size := KBbg.out.lt
  go_wp2_with fail
  refine HC.out.mono ?_
  rintro e u8 ⟨rfl, hb⟩
  clear ka00 ka01 ka0l kbs0 kbs1 kbsl kxxx0 kxxx1 kxxxl kbg0 kbg1 kbgl
  have KBa0 := Lib.hid (KBa0.out.below hb KBa0.out.lt)
  have KBbs := Lib.hid (KBbs.out.below hb KBbs.out.lt)
  have KBxxx := Lib.hid (KBxxx.out.below hb KBxxx.out.lt)
  have KBbg := Lib.hid (KBbg.out.below hb KBbg.out.lt)
  have HRs := Lib.hid (own_below0 HRs.out hb)
  have HRxx := Lib.hid (own_below0 HRxx.out hb)
  have HRg := Lib.hid (own_below0 HRg.out hb)
  have HB := Lib.hid (HB.out.trans (hb.mono HB.out.size))
  clear hb HC hbb
  have HC := Lib.hid (markTree_any _ Ag ng cg 1 _ (resE R) _ HRg.out (by omega) (by omega) (by omega))
  have ka00 : u8.cell? ⟨w.heap.size, 0, none⟩ = some (.slice a0 len0 cap0) := KBa0.out.cell 0
  have ka01 : u8.cell? ⟨w.heap.size, 1, none⟩ = some (.string s0) := KBa0.out.cell 1
  have ka0l : w.heap.size < u8.heap.size := KBa0.out.lt
  have kbs0 : u8.cell? ⟨u2.heap.size, 0, none⟩ = some (.slice As ns cs) := KBbs.out.cell 0
  have kbs1 : u8.cell? ⟨u2.heap.size, 1, none⟩ = some (.string (resE R)) := KBbs.out.cell 1
  have kbsl : u2.heap.size < u8.heap.size := KBbs.out.lt
  have kxxx0 : u8.cell? ⟨u3.heap.size, 0, none⟩ = some (.slice (some Bxx) len0 len0) := KBxxx.out.cell 0
  have kxxx1 : u8.cell? ⟨u3.heap.size, 1, none⟩ = some (.string s0) := KBxxx.out.cell 1
  have kxxxl : u3.heap.size < u8.heap.size := KBxxx.out.lt
  have kbg0 : u8.cell? ⟨u4.heap.size, 0, none⟩ = some (.slice Ag ng cg) := KBbg.out.cell 0
  have kbg1 : u8.cell? ⟨u4.heap.size, 1, none⟩ = some (.string (resE R)) := KBbg.out.cell 1
  have kbgl : u4.heap.size < u8.heap.size := KBbg.out.lt
  go_wp2_with fail
  refine HC.out.mono ?_
  rintro e u9 ⟨rfl, hown, hg⟩
  clear ka00 ka01 ka0l kbs0 kbs1 kbsl kxxx0 kxxx1 kxxxl kbg0 kbg1 kbgl
  have KBa0 := Lib.hid (KBa0.out.grown hg (own_blk_ne HRg.out KBa0.out (by decide)).symm)
  have KBbs := Lib.hid (KBbs.out.grown hg (own_blk_ne HRg.out KBbs.out (by decide)).symm)
  have KBxxx := Lib.hid (KBxxx.out.grown hg (own_blk_ne HRg.out KBxxx.out (by decide)).symm)
  have KBbg := Lib.hid (KBbg.out.grown hg (own_blk_ne HRg.out KBbg.out (by decide)).symm)
  have HRs := Lib.hid (own_apart4 HRs.out HRg.out hg APs_g.out)
  have HRxx := Lib.hid (own_apart4 HRxx.out HRg.out hg APxx_g.out)
  have HB := Lib.hid (HB.out.grown hg HB.out.size (fun k e => Nat.le_trans HLg.out (HRg.out.lt k e).1))
  have HRg := Lib.hid hown
  clear hg hown
  clear HC
  have HC := Lib.hid (heldTree_any Ag ng cg 1 (resE R) _ (RS.of_own HRg.out) (by omega) (by omega) (by omega))
  have ka00 : u9.cell? ⟨w.heap.size, 0, none⟩ = some (.slice a0 len0 cap0) := KBa0.out.cell 0
  have ka01 : u9.cell? ⟨w.heap.size, 1, none⟩ = some (.string s0) := KBa0.out.cell 1
  have ka0l : w.heap.size < u9.heap.size := KBa0.out.lt
  have kbs0 : u9.cell? ⟨u2.heap.size, 0, none⟩ = some (.slice As ns cs) := KBbs.out.cell 0
  have kbs1 : u9.cell? ⟨u2.heap.size, 1, none⟩ = some (.string (resE R)) := KBbs.out.cell 1
  have kbsl : u2.heap.size < u9.heap.size := KBbs.out.lt
  have kxxx0 : u9.cell? ⟨u3.heap.size, 0, none⟩ = some (.slice (some Bxx) len0 len0) := KBxxx.out.cell 0
  have kxxx1 : u9.cell? ⟨u3.heap.size, 1, none⟩ = some (.string s0) := KBxxx.out.cell 1
  have kxxxl : u3.heap.size < u9.heap.size := KBxxx.out.lt
  have kbg0 : u9.cell? ⟨u4.heap.size, 0, none⟩ = some (.slice Ag ng cg) := KBbg.out.cell 0
  have kbg1 : u9.cell? ⟨u4.heap.size, 1, none⟩ = some (.string (resE R)) := KBbg.out.cell 1
  have kbgl : u4.heap.size < u9.heap.size := KBbg.out.lt
  go_wp2_with fail
  refine HC.out.mono ?_
  rintro e u10 ⟨rfl, hb⟩
  clear ka00 ka01 ka0l kbs0 kbs1 kbsl kxxx0 kxxx1 kxxxl kbg0 kbg1 kbgl
  have KBa0 := Lib.hid (KBa0.out.below hb KBa0.out.lt)
  have KBbs := Lib.hid (KBbs.out.below hb KBbs.out.lt)
  have KBxxx := Lib.hid (KBxxx.out.below hb KBxxx.out.lt)
  have KBbg := Lib.hid (KBbg.out.below hb KBbg.out.lt)
  have HRs := Lib.hid (own_below0 HRs.out hb)
  have HRxx := Lib.hid (own_below0 HRxx.out hb)
  have HRg := Lib.hid (own_below0 HRg.out hb)
  have HB := Lib.hid (HB.out.trans (hb.mono HB.out.size))
  clear hb HC
  have hq0 : ¬ ((1 : Int) + (ng : Int) < 0) := by omega
  have HC := Lib.hid (toTree_any a0 len0 cap0 z0 s0 u10 (HA0.out _ HB.out) hn0)
  have ka00 : u10.cell? ⟨w.heap.size, 0, none⟩ = some (.slice a0 len0 cap0) := KBa0.out.cell 0
  have ka01 : u10.cell? ⟨w.heap.size, 1, none⟩ = some (.string s0) := KBa0.out.cell 1
  have ka0l : w.heap.size < u10.heap.size := KBa0.out.lt
  have kbs0 : u10.cell? ⟨u2.heap.size, 0, none⟩ = some (.slice As ns cs) := KBbs.out.cell 0
  have kbs1 : u10.cell? ⟨u2.heap.size, 1, none⟩ = some (.string (resE R)) := KBbs.out.cell 1
  have kbsl : u2.heap.size < u10.heap.size := KBbs.out.lt
  have kxxx0 : u10.cell? ⟨u3.heap.size, 0, none⟩ = some (.slice (some Bxx) len0 len0) := KBxxx.out.cell 0
  have kxxx1 : u10.cell? ⟨u3.heap.size, 1, none⟩ = some (.string s0) := KBxxx.out.cell 1
  have kxxxl : u3.heap.size < u10.heap.size := KBxxx.out.lt
  have kbg0 : u10.cell? ⟨u4.heap.size, 0, none⟩ = some (.slice Ag ng cg) := KBbg.out.cell 0
  have kbg1 : u10.cell? ⟨u4.heap.size, 1, none⟩ = some (.string (resE R)) := KBbg.out.cell 1
  have kbgl : u4.heap.size < u10.heap.size := KBbg.out.lt
  go_wp2_with fail
  refine HC.out.mono ?_
  rintro e u11 ⟨Bt2, rfl, ho, hb⟩
  clear ka00 ka01 ka0l kbs0 kbs1 kbsl kxxx0 kxxx1 kxxxl kbg0 kbg1 kbgl
  have APs_t2 := Lib.hid (apart_of4 HRs.out (Nat.le_refl _) ho)
  have APxx_t2 := Lib.hid (apart_of4 HRxx.out (Nat.le_refl _) ho)
  have APg_t2 := Lib.hid (apart_of4 HRg.out (Nat.le_refl _) ho)
  have HLt2 : Hid (w.heap.size ≤ u10.heap.size) := HB.out.size
  have KBa0 := Lib.hid (KBa0.out.below hb KBa0.out.lt)
  have KBbs := Lib.hid (KBbs.out.below hb KBbs.out.lt)
  have KBxxx := Lib.hid (KBxxx.out.below hb KBxxx.out.lt)
  have KBbg := Lib.hid (KBbg.out.below hb KBbg.out.lt)
  have HRs := Lib.hid (own_below0 HRs.out hb)
  have HRxx := Lib.hid (own_below0 HRxx.out hb)
  have HRg := Lib.hid (own_below0 HRg.out hb)
  have HB := Lib.hid (HB.out.trans (hb.mono HB.out.size))
  have HRt2 := Lib.hid ho
  clear hb ho HC
  have HC := Lib.hid (HIM.out u11 Bt2 (RS.of_own HRt2.out))
  have ka00 : u11.cell? ⟨w.heap.size, 0, none⟩ = some (.slice a0 len0 cap0) := KBa0.out.cell 0
  have ka01 : u11.cell? ⟨w.heap.size, 1, none⟩ = some (.string s0) := KBa0.out.cell 1
  have ka0l : w.heap.size < u11.heap.size := KBa0.out.lt
  have kbs0 : u11.cell? ⟨u2.heap.size, 0, none⟩ = some (.slice As ns cs) := KBbs.out.cell 0
  have kbs1 : u11.cell? ⟨u2.heap.size, 1, none⟩ = some (.string (resE R)) := KBbs.out.cell 1
  have kbsl : u2.heap.size < u11.heap.size := KBbs.out.lt
  have kxxx0 : u11.cell? ⟨u3.heap.size, 0, none⟩ = some (.slice (some Bxx) len0 len0) := KBxxx.out.cell 0
  have kxxx1 : u11.cell? ⟨u3.heap.size, 1, none⟩ = some (.string s0) := KBxxx.out.cell 1
  have kxxxl : u3.heap.size < u11.heap.size := KBxxx.out.lt
  have kbg0 : u11.cell? ⟨u4.heap.size, 0, none⟩ = some (.slice Ag ng cg) := KBbg.out.cell 0
  have kbg1 : u11.cell? ⟨u4.heap.size, 1, none⟩ = some (.string (resE R)) := KBbg.out.cell 1
  have kbgl : u4.heap.size < u11.heap.size := KBbg.out.lt
  go_wp2_with fail
  refine HC.out.mono ?_
  rintro e u12 ⟨R', hRh, hb, Ah, nh, ch, rfl, ho⟩
  obtain rfl := HOK.out.same hRh
  clear ka00 ka01 ka0l kbs0 kbs1 kbsl kxxx0 kxxx1 kxxxl kbg0 kbg1 kbgl
  have APs_h := Lib.hid (apart_of4 HRs.out (Nat.le_refl _) ho)
  have APxx_h := Lib.hid (apart_of4 HRxx.out (Nat.le_refl _) ho)
  have APg_h := Lib.hid (apart_of4 HRg.out (Nat.le_refl _) ho)
  have APt2_h := Lib.hid (apart_of4 HRt2.out (Nat.le_refl _) ho)
  have HLh : Hid (w.heap.size ≤ u11.heap.size) := HB.out.size
  have KBa0 := Lib.hid (KBa0.out.below hb KBa0.out.lt)
  have KBbs := Lib.hid (KBbs.out.below hb KBbs.out.lt)
  have KBxxx := Lib.hid (KBxxx.out.below hb KBxxx.out.lt)
  have KBbg := Lib.hid (KBbg.out.below hb KBbg.out.lt)
  have HRs := Lib.hid (own_below0 HRs.out hb)
  have HRxx := Lib.hid (own_below0 HRxx.out hb)
  have HRg := Lib.hid (own_below0 HRg.out hb)
  have HRt2 := Lib.hid (own_below0 HRt2.out hb)
  have HB := Lib.hid (HB.out.trans (hb.mono HB.out.size))
  have HRh := Lib.hid ho
  have hnh : nh ≤ 60 := by rw [← own_len HRh.out]; exact HOK.out.len
  clear hb ho HC
  have KLa0 : Hid (w.heap.size < u12.heap.size) := KBa0.out.lt
  have KLbs : Hid (u2.heap.size < u12.heap.size) := KBbs.out.lt
  have KLxxx : Hid (u3.heap.size < u12.heap.size) := KBxxx.out.lt
  have KLbg : Hid (u4.heap.size < u12.heap.size) := KBbg.out.lt
  have KBa0 := Lib.hid (KBa0.out.alloc (.cells #[.slice Ah nh ch, .string (resE R)] 29))
  have KBbs := Lib.hid (KBbs.out.alloc (.cells #[.slice Ah nh ch, .string (resE R)] 29))
  have KBxxx := Lib.hid (KBxxx.out.alloc (.cells #[.slice Ah nh ch, .string (resE R)] 29))
  have KBbg := Lib.hid (KBbg.out.alloc (.cells #[.slice Ah nh ch, .string (resE R)] 29))
  have HRs := Lib.hid (HRs.out.alloc (.cells #[.slice Ah nh ch, .string (resE R)] 29))
  have HRxx := Lib.hid (HRxx.out.alloc (.cells #[.slice Ah nh ch, .string (resE R)] 29))
  have HRg := Lib.hid (HRg.out.alloc (.cells #[.slice Ah nh ch, .string (resE R)] 29))
  have HRt2 := Lib.hid (HRt2.out.alloc (.cells #[.slice Ah nh ch, .string (resE R)] 29))
  have HRh := Lib.hid (HRh.out.alloc (.cells #[.slice Ah nh ch, .string (resE R)] 29))
  have KBbh := Lib.hid (Blk.new u12 29 #[.slice Ah nh ch, .string (resE R)])
  have HB := Lib.hid (HB.out.alloc HB.out.size (.cells #[.slice Ah nh ch, .string (resE R)] 29))
  clear HRt2
  have HC := Lib.hid (eqTree_same Ah As nh ns ch cs (resL R) (resE R) _ (RS.of_own HRh.out) (RS.of_own HRs.out) (by omega))
  have hbb : (R.isSome != R.isSome) = false := by simp
  have ka00 : u12.cell? ⟨w.heap.size, 0, none⟩ = some (.slice a0 len0 cap0) := by have := KBa0.out.cell 0; rwa [World.cell?_alloc_lt _ _ _ (KLa0.out)] at this
  have ka01 : u12.cell? ⟨w.heap.size, 1, none⟩ = some (.string s0) := by have := KBa0.out.cell 1; rwa [World.cell?_alloc_lt _ _ _ (KLa0.out)] at this
  have ka0l : w.heap.size < u12.heap.size := KLa0.out
  have kbs0 : u12.cell? ⟨u2.heap.size, 0, none⟩ = some (.slice As ns cs) := by have := KBbs.out.cell 0; rwa [World.cell?_alloc_lt _ _ _ (KLbs.out)] at this
  have kbs1 : u12.cell? ⟨u2.heap.size, 1, none⟩ = some (.string (resE R)) := by have := KBbs.out.cell 1; rwa [World.cell?_alloc_lt _ _ _ (KLbs.out)] at this
  have kbsl : u2.heap.size < u12.heap.size := KLbs.out
  have kxxx0 : u12.cell? ⟨u3.heap.size, 0, none⟩ = some (.slice (some Bxx) len0 len0) := by have := KBxxx.out.cell 0; rwa [World.cell?_alloc_lt _ _ _ (KLxxx.out)] at this
  have kxxx1 : u12.cell? ⟨u3.heap.size, 1, none⟩ = some (.string s0) := by have := KBxxx.out.cell 1; rwa [World.cell?_alloc_lt _ _ _ (KLxxx.out)] at this
  have kxxxl : u3.heap.size < u12.heap.size := KLxxx.out
  have kbg0 : u12.cell? ⟨u4.heap.size, 0, none⟩ = some (.slice Ag ng cg) := by have := KBbg.out.cell 0; rwa [World.cell?_alloc_lt _ _ _ (KLbg.out)] at this
  have kbg1 : u12.cell? ⟨u4.heap.size, 1, none⟩ = some (.string (resE R)) := by have := KBbg.out.cell 1; rwa [World.cell?_alloc_lt _ _ _ (KLbg.out)] at this
  have kbgl : u4.heap.size < u12.heap.size := KLbg.out
  go_wp2_with fail
  refine HC.out.mono ?_
  rintro e u13 ⟨rfl, hb⟩
  clear ka00 ka01 ka0l kbs0 kbs1 kbsl kxxx0 kxxx1 kxxxl kbg0 kbg1 kbgl
  have KBa0 := Lib.hid (KBa0.out.below hb KBa0.out.lt)
  have KBbs := Lib.hid (KBbs.out.below hb KBbs.out.lt)
  have KBxxx := Lib.hid (KBxxx.out.below hb KBxxx.out.lt)
  have KBbg := Lib.hid (KBbg.out.below hb KBbg.out.lt)
  have KBbh := Lib.hid (KBbh.out.below hb KBbh.out.lt)
  have HRs := Lib.hid (own_below0 HRs.out hb)
  have HRxx := Lib.hid (own_below0 HRxx.out hb)
  have HRg := Lib.hid (own_below0 HRg.out hb)
  have HRh := Lib.hid (own_below0 HRh.out hb)
  have HB := Lib.hid (HB.out.trans (hb.mono HB.out.size))
  clear hb HC hbb
  have HC := Lib.hid (heldTree_any Ag ng cg 1 (resE R) _ (RS.of_own HRg.out) (by omega) (by omega) (by omega))
  have ka00 : u13.cell? ⟨w.heap.size, 0, none⟩ = some (.slice a0 len0 cap0) := KBa0.out.cell 0
  have ka01 : u13.cell? ⟨w.heap.size, 1, none⟩ = some (.string s0) := KBa0.out.cell 1
  have ka0l : w.heap.size < u13.heap.size := KBa0.out.lt
  have kbs0 : u13.cell? ⟨u2.heap.size, 0, none⟩ = some (.slice As ns cs) := KBbs.out.cell 0
  have kbs1 : u13.cell? ⟨u2.heap.size, 1, none⟩ = some (.string (resE R)) := KBbs.out.cell 1
  have kbsl : u2.heap.size < u13.heap.size := KBbs.out.lt
  have kxxx0 : u13.cell? ⟨u3.heap.size, 0, none⟩ = some (.slice (some Bxx) len0 len0) := KBxxx.out.cell 0
  have kxxx1 : u13.cell? ⟨u3.heap.size, 1, none⟩ = some (.string s0) := KBxxx.out.cell 1
  have kxxxl : u3.heap.size < u13.heap.size := KBxxx.out.lt
  have kbg0 : u13.cell? ⟨u4.heap.size, 0, none⟩ = some (.slice Ag ng cg) := KBbg.out.cell 0
  have kbg1 : u13.cell? ⟨u4.heap.size, 1, none⟩ = some (.string (resE R)) := KBbg.out.cell 1
  have kbgl : u4.heap.size < u13.heap.size := KBbg.out.lt
  have kbh0 : u13.cell? ⟨u12.heap.size, 0, none⟩ = some (.slice Ah nh ch) := KBbh.out.cell 0
  have kbh1 : u13.cell? ⟨u12.heap.size, 1, none⟩ = some (.string (resE R)) := KBbh.out.cell 1
  have kbhl : u12.heap.size < u13.heap.size := KBbh.out.lt
  go_wp2_with fail
  refine HC.out.mono ?_
  rintro e u14 ⟨rfl, hb⟩
  clear ka00 ka01 ka0l kbs0 kbs1 kbsl kxxx0 kxxx1 kxxxl kbg0 kbg1 kbgl kbh0 kbh1 kbhl
  have KBa0 := Lib.hid (KBa0.out.below hb KBa0.out.lt)
  have KBbs := Lib.hid (KBbs.out.below hb KBbs.out.lt)
  have KBxxx := Lib.hid (KBxxx.out.below hb KBxxx.out.lt)
  have KBbg := Lib.hid (KBbg.out.below hb KBbg.out.lt)
  have KBbh := Lib.hid (KBbh.out.below hb KBbh.out.lt)
  have HRs := Lib.hid (own_below0 HRs.out hb)
  have HRxx := Lib.hid (own_below0 HRxx.out hb)
  have HRg := Lib.hid (own_below0 HRg.out hb)
  have HRh := Lib.hid (own_below0 HRh.out hb)
  have HB := Lib.hid (HB.out.trans (hb.mono HB.out.size))
  clear hb HC
  go_wp2
  go_ret
  exact ⟨rfl, HB.out⟩

/-! ### THE ROW's STEP -/
abbrev laidL : List (String × DataW Unit) := [("unicode/utf8.acceptRanges", Rows.laid_unicode_utf8_acceptRanges), ("unicode/utf8.first", Rows.laid_unicode_utf8_first)]
theorem laidWorld_met (os : Os) (args : Array Value) : laidMetH Tryd.prog laidL ((World.laidAll Tryd.prog os laidL).forCall (fun _ _ => 0) ⟨#[], args, []⟩).memory :=
  laidMetH_of_parts (laidMet_laidAll _ (by kernel_rfl) (by kernel_rfl)) (by kernel_rfl)

set_option maxRecDepth 100000 in
theorem lifted (os : Os) (started : os.Started) (H : Type) (enc : TypeId × Value → H) :
    ReturnsInHanded {} Tryd.checked os 12 .any (fun w args => (Rows.fnExactTreeTurnedSpec.pre enc Tryd.prog Tryd.f12 [] false w args ∧ laidMetH Tryd.prog laidL w) ∧ sizedMet enc Tryd.prog Tryd.f12 (OpenSpec.ofChange Rows.fnExactTreeTurnedSpec) false w args) (Rows.fnExactTreeTurnedSpec.post enc Tryd.prog Tryd.f12 false true false false) := by
  refine returnsInHanded_of_change_and (C := Tryd.checked) (X := fun w _ => laidMetH Tryd.prog laidL w) (fun _ _ _ hh h => h.of_heap hh) own started (by kernel_rfl) Tryd.func12
    (ChangeSpec.witness_shaped (enc := enc) (C := Tryd.checked) (os := os) (X := fun w _ => laidMetH Tryd.prog laidL w) false (World.laidAll Tryd.prog os laidL) #[.agg #[.slice none 0 0, .string ByteArray.empty]] 8 rfl (World.shaped_of_ZipB (by kernel_rfl) (by kernel_rfl)) (by kernel_rfl) (by kernel_rfl) (by kernel_rfl) (laidWorld_met os _)) ?_
  intro W base args ds gs before hval0 hW _ _ hL _
  have hval : ∀ (j : Nat) t v, Tryd.f12.params[j]? = some t → args[j]? = some v → Value.okWide Tryd.prog W .any base t v := hval0
  have hW' := hW
  obtain ⟨p, q, hA0, hV, rfl, hfz, hnd⟩ := hW
  have hA : DataW.TrodAll enc Tryd.prog W 0 (fun _ => true) true Tryd.f12.params.toList args.toList ds p := hA0
  rw [Tryd.params12] at hA hval
  obtain ⟨v0, vs0, d0, ds0, p0, qq0, hargs, rfl, rfl, h0, r0⟩ := trodAll_cons hA
  obtain ⟨rfl, rfl, rfl⟩ := trodAll_nil r0
  obtain rfl : args = #[v0] := by cases args; simp_all
  obtain ⟨rfl, rfl⟩ := trodVars_none hV
  have k0 := h0
  have lt0 : ∀ x ∈ p0, x.block < W.heap.size := by obtain ⟨m, hm⟩ := k0; exact DataW.trod_lt m _ _ _ hm
  obtain ⟨x0, y0, u0, t0, n0, rfl, rfl, rfl, g0, l0⟩ := Go.Joins.open_agg2 Tryd.underlying36 (by kernel_rfl) (by kernel_rfl) (hval 0 36 v0 rfl rfl) h0
  obtain ⟨a0, len0, cap0, z0, rfl, q0⟩ := open_strs0 Tryd.underlying27 Tryd.underlying9 (by kernel_rfl) g0
  obtain ⟨s0, e0, f0⟩ := open_str0 Tryd.underlying9 l0
  subst e0
  have w0 : IsTree W a0 len0 z0 s0 := ⟨q0.1, q0.2.1, q0.2.2, f0⟩
  clear hA0 hval0
  refine (walk a0 len0 cap0 z0 s0 W trivial w0).mono fun e W' ⟨he, bel⟩ => ?_
  subst he
  exact ⟨_, rfl, _, _, _, [], _, [], hW', trodAll_mk1 (shut_bool Tryd.underlying4 _), (trodAll_cons_mk (Below.trod laidOut (by kernel_rfl) (of_decide_eq_true (by kernel_rfl)) k0 bel lt0) trodAll_mk0), rfl, bel.frame _, fun h => by cases h⟩

theorem over : Rows.fnExactTreeTurnedRow.holds Tryd.pinned (OpenSpec.ofChange Rows.fnExactTreeTurnedSpec) :=
  OpenClaim.holds_of_wide 12 Tryd.f12 rfl rfl rfl rfl rfl rfl rfl ⟨rfl, rfl, rfl, rfl, rfl⟩ rfl rfl rfl rfl rfl (by kernel_rfl) Tryd.func12 (by kernel_rfl)
    (of_decide_eq_true (by kernel_rfl)) (by unfold Func.isWrapper; first | (rw [if_pos (by decide +kernel)]; kernel_rfl) | (rw [if_neg (by decide +kernel)]; exact ⟨rfl, rfl⟩))
    (fun os started H enc _ => lifted os started H enc)

theorem proved : Rows.FnExactTreeTurnedCardSaid :=
  Claim7.holds_tied_plain_at .later [] [.data, .pinned] true _ false
    over (fun _ h => by cases h) (by kernel_rfl) (fun _ h => by cases h) fnExactTreeTurned_row_tie rfl ⟨rfl, rfl⟩ (by kernel_rfl) rfl
    (fun f fn hf hfn => by
      obtain rfl : f = 12 := Option.some.inj ((show Tryd.prog.funcNamed Rows.fnExactTreeTurnedRow.func = some 12 by kernel_rfl).symm.trans hf) |>.symm
      obtain rfl : fn = Tryd.f12 := (Option.some.inj (Tryd.func12.symm.trans hfn)).symm
      exact ⟨by kernel_rfl, fun j t ht => by
        rw [Tryd.params12] at ht
        rcases j with _ | j
        · have h0 : t = 36 := by simpa using ht.symm
          subst h0
          exact (show Tryd.prog.wantsStandIn 36 = false by kernel_rfl)
        simp at ht⟩)
    (by kernel_rfl)
#print axioms proved
end Go.Proofs.YtlcjgppclclkoaaDoor.fnExactTreeTurned

