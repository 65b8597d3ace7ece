/-
  FnExactTreeTimes: for every input the law returns true and leaves its arguments as they were. No condition.
-/
import Derived.Test.YtlcjgppclclkoaaDoorRows
import Derived.Test.YtlcjgppclclkoaaDoorCards
import Derived.Test.YtlcjgppclclkoaaDoorTie
import Derived.Test.YtlcjgppclclkoaaDoorUY
import Derived.Test.YtlcjgppclclkoaaDoorUO
import Derived.Test.YtlcjgppclclkoaaDoorUM
import Derived.Test.YtlcjgppclclkoaaDoorUL
import Derived.Test.YtlcjgppclclkoaaDoorUB
import Derived.Test.YtlcjgppclclkoaaDoorTV
import Derived.WalkKit
import Derived.Deep.QuietTactic
import Derived.BigQuiet
import Derived.Outline
import Derived.ProofKit
import Derived.OpenShut
import Derived.ShutString
import Derived.ChangeOld
import Derived.Below
import Derived.ChangeSame
import Derived.ChangeVars
import Derived.JoinedOf
import Derived.RowKit
import Derived.RowKitTokens
import Derived.LaidLaws
import Derived.LaidHandle
import Derived.Stop.Joined
import Derived.SevenTiedAt
import Derived.Lay
namespace Go.Proofs.YtlcjgppclclkoaaDoor.fnExactTreeTimes
set_option maxRecDepth 100000
open Go.ChangeShapes Go.WideShapes Go.ChangeAt Go.RowKit
open Go.ChangeMaps (open_string shut_string)
set_option linter.unusedVariables false

theorem own : ownKnob Tryd.prog.godebug = none := by kernel_rfl
theorem laidOut : laidOutB Tryd.prog = true := by kernel_rfl

def IsRow (k : IntKind) (w : World) (a : Option Addr) (len cap : Nat) (zs : List Int) : Prop :=
  (a = none ∧ len = 0 ∧ cap = 0 ∧ zs = []) ∨
  ∃ x, a = some x ∧ len ≤ cap ∧ cap ≤ maxLen ∧ zs.length = cap ∧ (∀ i, i < zs.length → w.cell? (x.add i) = some (.int k (zs.getD i 0))) ∧ ∀ n ∈ zs, (Lit.int k n).wf = true



set_option maxHeartbeats 3000000 in
theorem walk (a0 : Option Addr) (len0 cap0 : Nat) (z0 : List ByteArray) (s0 : ByteArray) (a1 : Option Addr) (len1 cap1 : Nat) (z1 : List ByteArray) (s1 : ByteArray) (w : World) (het : True) (w0 : IsTree w a0 len0 z0 s0) (w1 : IsTree w a1 len1 z1 s1) :
    Calls Tryd.prog 11 #[.agg #[.slice a0 len0 cap0, .string s0], .agg #[.slice a1 len1 cap1, .string s1]] w fun e w' => e = .returned (.bool true) ∧ Below w.heap.size w w' := by
  have HET := Lib.hid het
  clear het
  obtain ⟨hrs0, hlen0, hzl0, hsl0⟩ := w0
  obtain ⟨hrs1, hlen1, hzl1, hsl1⟩ := w1
  have HA0 : Hid (∀ W : World, Below w.heap.size w W → RS W a0 len0 z0) := fun W hW => hrs0.below hW
  have HZ0 : Hid (∀ (r : Int) (W : World), 0 ≤ r → r ≤ 1048576 → Below w.heap.size w W → Calls Tryd.prog 23 #[.agg #[.slice a0 len0 cap0, .string s0], .int .i64 r] W fun e w' => ∃ q : Int, e = .returned (.int .i64 q) ∧ -1 ≤ q ∧ q ≤ r ∧ (0 ≤ q → (len0 : Int) ≤ r ∧ (s0.size : Int) ≤ r ∧ ∀ s ∈ z0, (s.size : Int) ≤ r) ∧ Below W.heap.size W w') := fun r W h0 h1 hW => szTree_any a0 len0 cap0 r z0 s0 W (hrs0.below hW) h0 h1 hlen0 hzl0 hsl0
  have HA1 : Hid (∀ W : World, Below w.heap.size w W → RS W a1 len1 z1) := fun W hW => hrs1.below hW
  have HZ1 : Hid (∀ (r : Int) (W : World), 0 ≤ r → r ≤ 1048576 → Below w.heap.size w W → Calls Tryd.prog 23 #[.agg #[.slice a1 len1 cap1, .string s1], .int .i64 r] W fun e w' => ∃ q : Int, e = .returned (.int .i64 q) ∧ -1 ≤ q ∧ q ≤ r ∧ (0 ≤ q → (len1 : Int) ≤ r ∧ (s1.size : Int) ≤ r ∧ ∀ s ∈ z1, (s.size : Int) ≤ r) ∧ Below W.heap.size W w') := fun r W h0 h1 hW => szTree_any a1 len1 cap1 r z1 s1 W (hrs1.below hW) h0 h1 hlen1 hzl1 hsl1
  have HB := Lib.hid (Below.refl w.heap.size w)
  have KBa0 := Lib.hid (Blk.new w 36 #[.slice a0 len0 cap0, .string s0])
  have HB := Lib.hid (HB.out.alloc HB.out.size (.cells #[.slice a0 len0 cap0, .string s0] 36))
  have hz1 : (w.alloc (.cells #[.slice a0 len0 cap0, .string s0] 36)).heap.size = w.heap.size + 1 := by simp
  have KLa0 : Hid (w.heap.size < (w.alloc (.cells #[.slice a0 len0 cap0, .string s0] 36)).heap.size) := KBa0.out.lt
  have KBa0 := Lib.hid (KBa0.out.alloc (.cells #[.slice a1 len1 cap1, .string s1] 36))
  have KBa1 := Lib.hid (Blk.new (w.alloc (.cells #[.slice a0 len0 cap0, .string s0] 36)) 36 #[.slice a1 len1 cap1, .string s1])
  have HB := Lib.hid (HB.out.alloc HB.out.size (.cells #[.slice a1 len1 cap1, .string s1] 36))
  rw [hz1] at KBa1
  clear hz1
  clear hrs0 hlen0 hzl0 hsl0 hrs1 hlen1 hzl1 hsl1
  go_enter Tryd.func11, Tryd.ntmps11
  have HC := Lib.hid (HZ0.out 1048576 ((w.alloc (.cells #[.slice a0 len0 cap0, .string s0] 36)).alloc (.cells #[.slice a1 len1 cap1, .string s1] 36)) (by omega) (by omega) HB.out)
  go_wp2_with fail
  refine HC.out.mono ?_
  rintro e v0 ⟨r0, rfl, hr0_0, hr1_0, hr2_0, hb⟩
  have KBa0 := Lib.hid (KBa0.out.below hb KBa0.out.lt)
  have KBa1 := Lib.hid (KBa1.out.below hb KBa1.out.lt)
  have HB := Lib.hid (HB.out.trans (hb.mono HB.out.size))
  have HQ0 := Lib.hid hr2_0
  clear hb hr2_0 HC
  by_cases hr0 : r0 < 0
  · go_wp2
    go_ret
    exact ⟨rfl, HB.out⟩
  have hn0 : len0 ≤ 1048576 := by have := (HQ0.out (by omega)).1; omega
  have HS0 : Hid ((∀ s ∈ z0, s.size ≤ 1048576) ∧ s0.size ≤ 1048576) := ⟨fun s hs => by have := (HQ0.out (by omega)).2.2 s hs; omega, by have := (HQ0.out (by omega)).2.1; omega⟩
  clear HQ0 HZ0
  have HC := Lib.hid (HZ1.out r0 v0 (by omega) (by omega) HB.out)
  have ka00 : v0.cell? ⟨w.heap.size, 0, none⟩ = some (.slice a0 len0 cap0) := KBa0.out.cell 0
  have ka01 : v0.cell? ⟨w.heap.size, 1, none⟩ = some (.string s0) := KBa0.out.cell 1
  have ka0l : w.heap.size < v0.heap.size := KBa0.out.lt
  have ka10 : v0.cell? ⟨(w.heap.size + 1), 0, none⟩ = some (.slice a1 len1 cap1) := KBa1.out.cell 0
  have ka11 : v0.cell? ⟨(w.heap.size + 1), 1, none⟩ = some (.string s1) := KBa1.out.cell 1
  have ka1l : (w.heap.size + 1) < v0.heap.size := KBa1.out.lt
  go_wp2_with fail
  refine HC.out.mono ?_
  rintro e v1 ⟨r1, rfl, hr0_1, hr1_1, hr2_1, hb⟩
  clear ka00 ka01 ka0l ka10 ka11 ka1l
  have KBa0 := Lib.hid (KBa0.out.below hb KBa0.out.lt)
  have KBa1 := Lib.hid (KBa1.out.below hb KBa1.out.lt)
  have HB := Lib.hid (HB.out.trans (hb.mono HB.out.size))
  have HQ1 := Lib.hid hr2_1
  clear hb hr2_1 HC
  by_cases hr1 : r1 < 0
  · go_wp2
    go_ret
    exact ⟨rfl, HB.out⟩
  have hn1 : len1 ≤ 1048576 := by have := (HQ1.out (by omega)).1; omega
  have HS1 : Hid ((∀ s ∈ z1, s.size ≤ 1048576) ∧ s1.size ≤ 1048576) := ⟨fun s hs => by have := (HQ1.out (by omega)).2.2 s hs; omega, by have := (HQ1.out (by omega)).2.1; omega⟩
  clear HQ1 HZ1
  have HSP : Hid (∀ (W : World) (B B' : Addr), RS W (some B) len0 z0 → RS W (some B') len1 z1 → Calls Tryd.prog 35 #[.agg #[.slice (some B) len0 len0, .string s0], .agg #[.slice (some B') len1 len1, .string s1]] W fun e w' => ∃ R, TimesOk z0 z1 s0 s1 R ∧ TreePost R W e w') := fun W B B' h h' => specTimes_any (some B) (some B') len0 len1 len0 len1 z0 z1 s0 s1 W h h' hn0 hn1 HS0.out.1 HS1.out.1
  have HIM : Hid (∀ (W : World) (B B' : Addr), RS W (some B) len0 z0 → RS W (some B') len1 z1 → Calls Tryd.prog 36 #[.agg #[.slice (some B) len0 len0, .string s0], .agg #[.slice (some B') len1 len1, .string s1]] W fun e w' => ∃ R, TimesOk z0 z1 s0 s1 R ∧ TreePost R W e w') := fun W B B' h h' => implTimes_any (some B) (some B') len0 len1 len0 len1 z0 z1 s0 s1 W h h' hn0 hn1 HS0.out.1 HS1.out.1 HS0.out.2 HS1.out.2
  have HCK : Hid (∀ w' : World, Below v1.heap.size v1 w' → w'.cell? ⟨w.heap.size, 0, none⟩ = some (.slice a0 len0 cap0) ∧ w'.cell? ⟨w.heap.size, 1, none⟩ = some (.string s0) ∧ w'.cell? ⟨(w.heap.size + 1), 0, none⟩ = some (.slice a1 len1 cap1) ∧ w'.cell? ⟨(w.heap.size + 1), 1, none⟩ = some (.string s1)) := fun w' hW => ⟨(KBa0.out.below hW KBa0.out.lt).cell 0, (KBa0.out.below hW KBa0.out.lt).cell 1, (KBa1.out.below hW KBa1.out.lt).cell 0, (KBa1.out.below hW KBa1.out.lt).cell 1⟩
  have HT0 : Hid (∀ W : World, Below v1.heap.size v1 W → Calls Tryd.prog 25 #[.agg #[.slice a0 len0 cap0, .string s0]] W fun e w' => ∃ B : Addr, e = .returned (.agg #[.slice (some B) len0 len0, .string s0]) ∧ w'.ownsRow W.heap.size 9 1 (.slice (some B) len0 len0) len0 (svL z0) ∧ Below W.heap.size W w') := fun W hW => toTree_any a0 len0 cap0 z0 s0 W (HA0.out _ (HB.out.trans (hW.mono HB.out.size))) hn0
  have HT1 : Hid (∀ W : World, Below v1.heap.size v1 W → Calls Tryd.prog 25 #[.agg #[.slice a1 len1 cap1, .string s1]] W fun e w' => ∃ B : Addr, e = .returned (.agg #[.slice (some B) len1 len1, .string s1]) ∧ w'.ownsRow W.heap.size 9 1 (.slice (some B) len1 len1) len1 (svL z1) ∧ Below W.heap.size W w') := fun W hW => toTree_any a1 len1 cap1 z1 s1 W (HA1.out _ (HB.out.trans (hW.mono HB.out.size))) hn1
  have HBc : Below v1.heap.size v1 v1.drew := (Below.refl _ _).drew
  go_wp2_with fail
  rename_i Ko aKo
  apply kcut0 (fun F : Nat → Option Addr → Nat → Nat → Option (List (List (Fin 4)) × List (Fin 4)) → Addr → Addr → Act => Hid (∀ (g : Nat) (A : Option Addr) (n c : Nat) (R : Option (List (List (Fin 4)) × List (Fin 4))) (B1 B2 : Addr) (V : World), TimesOk z0 z1 s0 s1 R → Got v1 V g A n c R → Ko (F g A n c R B1 B2) V))
  case h1 =>
    intro HK
    go_region_held3 (fun w' => w'.cell? ⟨w.heap.size, 0, none⟩ = some (.slice a0 len0 cap0) ∧ w'.cell? ⟨w.heap.size, 1, none⟩ = some (.string s0) ∧ w'.cell? ⟨(w.heap.size + 1), 0, none⟩ = some (.slice a1 len1 cap1) ∧ w'.cell? ⟨(w.heap.size + 1), 1, none⟩ = some (.string s1)) (exact HCK.out _ (by first | exact HBc | exact HBc.alloc HBc.size _ | exact (got_set HBc KZ ho).1))
      (first
        | (go_at_call 25
           fail_if_success (have hh := ho1)
           refine (HT0.out _ (by first | exact HBc | exact HBc.alloc HBc.size _)).mono ?_
           rintro e q1 ⟨B1, rfl, ho1, hb1⟩
           first | (have KZ : ZBox v1 q1 v1.heap.size := new_box (X := v1) (Below.refl _ _) ⟨hb1.os, hb1.tape, hb1.output, hb1.size, fun k hk => hb1.block k hk⟩) | skip
           have HBc := bel_step (by first | exact HBc | exact HBc.alloc HBc.size _) hb1 (Nat.le_refl _))
        | (go_at_call 25
           refine (HT1.out _ (by first | exact HBc | exact HBc.alloc HBc.size _)).mono ?_
           rintro e q2 ⟨B2, rfl, ho2, hb2⟩
           have ho1 := own_below0 (by first | exact ho1 | exact ho1.alloc _) hb2
           first | (have KZ := KZ.below hb2) | (have KZ := new_box HBc hb2) | skip
           have HBc := bel_step (by first | exact HBc | exact HBc.alloc HBc.size _) hb2 (Nat.le_refl _))
        | (go_at_call 35
           refine (HSP.out _ B1 B2 (by first | exact RS.of_own ho1 | exact RS.of_own (ho1.alloc _)) (by first | exact RS.of_own ho2 | exact RS.of_own (ho2.alloc _))).mono ?_
           rintro e q3 ⟨R, hR, hb3, A, n, c, rfl, ho⟩
           have ho := got_row (by first | exact HBc | exact HBc.alloc HBc.size _) ho
           first | (have KZ := KZ.below hb3) | (have KZ := new_box HBc hb3) | skip
           first | (obtain ⟨zc0, zc1, zc2, zc3, zc4⟩ := KZ.cells) | skip
           have HBc := bel_step (by first | exact HBc | exact HBc.alloc HBc.size _) hb3 (Nat.le_refl _)))
    all_goals first
      | (have hGot := got_set HBc KZ ho
         obtain ⟨gx, hgx⟩ := KZ.ex
         rw [← hgx] at hGot ⊢
         exact HK.out gx A n c R B1 B2 _ hR hGot)
      | (have hGot := got_new HBc ho
         obtain ⟨gx, hgx⟩ : ∃ x, x = q3.heap.size := ⟨_, rfl⟩
         rw [← hgx] at hGot ⊢
         exact HK.out gx A n c R B1 B2 _ hR hGot)
  intro gs As ns cs R B1 B2 u1 hR hGot
  obtain ⟨hb, hk, ho⟩ := hGot
  refine aKo _ _ ?_
  clear aKo HBc HCK HT0 HT1
  have HOK := Lib.hid hR
  have HLs : Hid (w.heap.size ≤ v1.heap.size) := HB.out.size
  have KBa0 := Lib.hid (KBa0.out.below hb KBa0.out.lt)
  have KBa1 := Lib.hid (KBa1.out.below hb KBa1.out.lt)
  have HB := Lib.hid (HB.out.trans (hb.mono HB.out.size))
  have KBbs := Lib.hid hk
  have HRs := Lib.hid ho
  have hns : ns ≤ 60 := by rw [← own_len HRs.out]; exact HOK.out.len
  clear hb hk ho hR
  have HC := Lib.hid (toTree_any a0 len0 cap0 z0 s0 u1 (HA0.out _ HB.out) hn0)
  have ka00 : u1.cell? ⟨w.heap.size, 0, none⟩ = some (.slice a0 len0 cap0) := KBa0.out.cell 0
  have ka01 : u1.cell? ⟨w.heap.size, 1, none⟩ = some (.string s0) := KBa0.out.cell 1
  have ka0l : w.heap.size < u1.heap.size := KBa0.out.lt
  have ka10 : u1.cell? ⟨(w.heap.size + 1), 0, none⟩ = some (.slice a1 len1 cap1) := KBa1.out.cell 0
  have ka11 : u1.cell? ⟨(w.heap.size + 1), 1, none⟩ = some (.string s1) := KBa1.out.cell 1
  have ka1l : (w.heap.size + 1) < u1.heap.size := KBa1.out.lt
  have kbs0 : u1.cell? ⟨gs, 0, none⟩ = some (.slice As ns cs) := KBbs.out.cell 0
  have kbs1 : u1.cell? ⟨gs, 1, none⟩ = some (.string (resE R)) := KBbs.out.cell 1
  have kbsl : gs < u1.heap.size := KBbs.out.lt
  go_wp2_with fail
  refine HC.out.mono ?_
  rintro e u2 ⟨Bxx, rfl, ho, hb⟩
  clear ka00 ka01 ka0l ka10 ka11 ka1l kbs0 kbs1 kbsl
  have APs_xx := Lib.hid (apart_of4 HRs.out (Nat.le_refl _) ho)
  have HLxx : Hid (w.heap.size ≤ u1.heap.size) := HB.out.size
  have KBa0 := Lib.hid (KBa0.out.below hb KBa0.out.lt)
  have KBa1 := Lib.hid (KBa1.out.below hb KBa1.out.lt)
  have KBbs := Lib.hid (KBbs.out.below hb KBbs.out.lt)
  have HRs := Lib.hid (own_below0 HRs.out hb)
  have HB := Lib.hid (HB.out.trans (hb.mono HB.out.size))
  have HRxx := Lib.hid ho
  clear hb ho HC
  have KLa0 : Hid (w.heap.size < u2.heap.size) := KBa0.out.lt
  have KLa1 : Hid ((w.heap.size + 1) < u2.heap.size) := KBa1.out.lt
  have KLbs : Hid (gs < u2.heap.size) := KBbs.out.lt
  have KBa0 := Lib.hid (KBa0.out.alloc (.cells #[.slice (some Bxx) len0 len0, .string s0] 29))
  have KBa1 := Lib.hid (KBa1.out.alloc (.cells #[.slice (some Bxx) len0 len0, .string s0] 29))
  have KBbs := Lib.hid (KBbs.out.alloc (.cells #[.slice (some Bxx) len0 len0, .string s0] 29))
  have HRs := Lib.hid (HRs.out.alloc (.cells #[.slice (some Bxx) len0 len0, .string s0] 29))
  have HRxx := Lib.hid (HRxx.out.alloc (.cells #[.slice (some Bxx) len0 len0, .string s0] 29))
  have KBxxx := Lib.hid (Blk.new u2 29 #[.slice (some Bxx) len0 len0, .string s0])
  have HB := Lib.hid (HB.out.alloc HB.out.size (.cells #[.slice (some Bxx) len0 len0, .string s0] 29))
  have HC := Lib.hid (toTree_any a1 len1 cap1 z1 s1 (u2.alloc (.cells #[.slice (some Bxx) len0 len0, .string s0] 29)) (HA1.out _ HB.out) hn1)
  have ka00 : u2.cell? ⟨w.heap.size, 0, none⟩ = some (.slice a0 len0 cap0) := by have := KBa0.out.cell 0; rwa [World.cell?_alloc_lt _ _ _ (KLa0.out)] at this
  have ka01 : u2.cell? ⟨w.heap.size, 1, none⟩ = some (.string s0) := by have := KBa0.out.cell 1; rwa [World.cell?_alloc_lt _ _ _ (KLa0.out)] at this
  have ka0l : w.heap.size < u2.heap.size := KLa0.out
  have ka10 : u2.cell? ⟨(w.heap.size + 1), 0, none⟩ = some (.slice a1 len1 cap1) := by have := KBa1.out.cell 0; rwa [World.cell?_alloc_lt _ _ _ (KLa1.out)] at this
  have ka11 : u2.cell? ⟨(w.heap.size + 1), 1, none⟩ = some (.string s1) := by have := KBa1.out.cell 1; rwa [World.cell?_alloc_lt _ _ _ (KLa1.out)] at this
  have ka1l : (w.heap.size + 1) < u2.heap.size := KLa1.out
  have kbs0 : u2.cell? ⟨gs, 0, none⟩ = some (.slice As ns cs) := by have := KBbs.out.cell 0; rwa [World.cell?_alloc_lt _ _ _ (KLbs.out)] at this
  have kbs1 : u2.cell? ⟨gs, 1, none⟩ = some (.string (resE R)) := by have := KBbs.out.cell 1; rwa [World.cell?_alloc_lt _ _ _ (KLbs.out)] at this
  have kbsl : gs < u2.heap.size := KLbs.out
  go_wp2_with fail
  refine HC.out.mono ?_
  rintro e u3 ⟨Bxy, rfl, ho, hb⟩
  clear ka00 ka01 ka0l ka10 ka11 ka1l kbs0 kbs1 kbsl
  have APs_xy := Lib.hid (apart_of4 HRs.out (Nat.le_refl _) ho)
  have APxx_xy := Lib.hid (apart_of4 HRxx.out (Nat.le_refl _) ho)
  have HLxy : Hid (w.heap.size ≤ (u2.alloc (.cells #[.slice (some Bxx) len0 len0, .string s0] 29)).heap.size) := HB.out.size
  have KBa0 := Lib.hid (KBa0.out.below hb KBa0.out.lt)
  have KBa1 := Lib.hid (KBa1.out.below hb KBa1.out.lt)
  have KBbs := Lib.hid (KBbs.out.below hb KBbs.out.lt)
  have KBxxx := Lib.hid (KBxxx.out.below hb KBxxx.out.lt)
  have HRs := Lib.hid (own_below0 HRs.out hb)
  have HRxx := Lib.hid (own_below0 HRxx.out hb)
  have HB := Lib.hid (HB.out.trans (hb.mono HB.out.size))
  have HRxy := Lib.hid ho
  clear hb ho HC
  have KLa0 : Hid (w.heap.size < u3.heap.size) := KBa0.out.lt
  have KLa1 : Hid ((w.heap.size + 1) < u3.heap.size) := KBa1.out.lt
  have KLbs : Hid (gs < u3.heap.size) := KBbs.out.lt
  have KLxxx : Hid (u2.heap.size < u3.heap.size) := KBxxx.out.lt
  have KBa0 := Lib.hid (KBa0.out.alloc (.cells #[.slice (some Bxy) len1 len1, .string s1] 29))
  have KBa1 := Lib.hid (KBa1.out.alloc (.cells #[.slice (some Bxy) len1 len1, .string s1] 29))
  have KBbs := Lib.hid (KBbs.out.alloc (.cells #[.slice (some Bxy) len1 len1, .string s1] 29))
  have KBxxx := Lib.hid (KBxxx.out.alloc (.cells #[.slice (some Bxy) len1 len1, .string s1] 29))
  have HRs := Lib.hid (HRs.out.alloc (.cells #[.slice (some Bxy) len1 len1, .string s1] 29))
  have HRxx := Lib.hid (HRxx.out.alloc (.cells #[.slice (some Bxy) len1 len1, .string s1] 29))
  have HRxy := Lib.hid (HRxy.out.alloc (.cells #[.slice (some Bxy) len1 len1, .string s1] 29))
  have KBxxy := Lib.hid (Blk.new u3 29 #[.slice (some Bxy) len1 len1, .string s1])
  have HB := Lib.hid (HB.out.alloc HB.out.size (.cells #[.slice (some Bxy) len1 len1, .string s1] 29))
  have HC := Lib.hid (HIM.out (u3.alloc (.cells #[.slice (some Bxy) len1 len1, .string s1] 29)) Bxx Bxy (RS.of_own HRxx.out) (RS.of_own HRxy.out))
  have ka00 : u3.cell? ⟨w.heap.size, 0, none⟩ = some (.slice a0 len0 cap0) := by have := KBa0.out.cell 0; rwa [World.cell?_alloc_lt _ _ _ (KLa0.out)] at this
  have ka01 : u3.cell? ⟨w.heap.size, 1, none⟩ = some (.string s0) := by have := KBa0.out.cell 1; rwa [World.cell?_alloc_lt _ _ _ (KLa0.out)] at this
  have ka0l : w.heap.size < u3.heap.size := KLa0.out
  have ka10 : u3.cell? ⟨(w.heap.size + 1), 0, none⟩ = some (.slice a1 len1 cap1) := by have := KBa1.out.cell 0; rwa [World.cell?_alloc_lt _ _ _ (KLa1.out)] at this
  have ka11 : u3.cell? ⟨(w.heap.size + 1), 1, none⟩ = some (.string s1) := by have := KBa1.out.cell 1; rwa [World.cell?_alloc_lt _ _ _ (KLa1.out)] at this
  have ka1l : (w.heap.size + 1) < u3.heap.size := KLa1.out
  have kbs0 : u3.cell? ⟨gs, 0, none⟩ = some (.slice As ns cs) := by have := KBbs.out.cell 0; rwa [World.cell?_alloc_lt _ _ _ (KLbs.out)] at this
  have kbs1 : u3.cell? ⟨gs, 1, none⟩ = some (.string (resE R)) := by have := KBbs.out.cell 1; rwa [World.cell?_alloc_lt _ _ _ (KLbs.out)] at this
  have kbsl : gs < u3.heap.size := KLbs.out
  have kxxx0 : u3.cell? ⟨u2.heap.size, 0, none⟩ = some (.slice (some Bxx) len0 len0) := by have := KBxxx.out.cell 0; rwa [World.cell?_alloc_lt _ _ _ (KLxxx.out)] at this
  have kxxx1 : u3.cell? ⟨u2.heap.size, 1, none⟩ = some (.string s0) := by have := KBxxx.out.cell 1; rwa [World.cell?_alloc_lt _ _ _ (KLxxx.out)] at this
  have kxxxl : u2.heap.size < u3.heap.size := KLxxx.out
  go_wp2_with fail
  refine HC.out.mono ?_
  rintro e u4 ⟨R', hRg, hb, Ag, ng, cg, rfl, ho⟩
  obtain rfl := HOK.out.same hRg
  clear ka00 ka01 ka0l ka10 ka11 ka1l kbs0 kbs1 kbsl kxxx0 kxxx1 kxxxl
  have APs_g := Lib.hid (apart_of4 HRs.out (Nat.le_refl _) ho)
  have APxx_g := Lib.hid (apart_of4 HRxx.out (Nat.le_refl _) ho)
  have APxy_g := Lib.hid (apart_of4 HRxy.out (Nat.le_refl _) ho)
  have HLg : Hid (w.heap.size ≤ (u3.alloc (.cells #[.slice (some Bxy) len1 len1, .string s1] 29)).heap.size) := HB.out.size
  have KBa0 := Lib.hid (KBa0.out.below hb KBa0.out.lt)
  have KBa1 := Lib.hid (KBa1.out.below hb KBa1.out.lt)
  have KBbs := Lib.hid (KBbs.out.below hb KBbs.out.lt)
  have KBxxx := Lib.hid (KBxxx.out.below hb KBxxx.out.lt)
  have KBxxy := Lib.hid (KBxxy.out.below hb KBxxy.out.lt)
  have HRs := Lib.hid (own_below0 HRs.out hb)
  have HRxx := Lib.hid (own_below0 HRxx.out hb)
  have HRxy := Lib.hid (own_below0 HRxy.out hb)
  have HB := Lib.hid (HB.out.trans (hb.mono HB.out.size))
  have HRg := Lib.hid ho
  have hng : ng ≤ 60 := by rw [← own_len HRg.out]; exact HOK.out.len
  clear hb ho HC
  have KLa0 : Hid (w.heap.size < u4.heap.size) := KBa0.out.lt
  have KLa1 : Hid ((w.heap.size + 1) < u4.heap.size) := KBa1.out.lt
  have KLbs : Hid (gs < u4.heap.size) := KBbs.out.lt
  have KLxxx : Hid (u2.heap.size < u4.heap.size) := KBxxx.out.lt
  have KLxxy : Hid (u3.heap.size < u4.heap.size) := KBxxy.out.lt
  have KBa0 := Lib.hid (KBa0.out.alloc (.cells #[.slice Ag ng cg, .string (resE R)] 29))
  have KBa1 := Lib.hid (KBa1.out.alloc (.cells #[.slice Ag ng cg, .string (resE R)] 29))
  have KBbs := Lib.hid (KBbs.out.alloc (.cells #[.slice Ag ng cg, .string (resE R)] 29))
  have KBxxx := Lib.hid (KBxxx.out.alloc (.cells #[.slice Ag ng cg, .string (resE R)] 29))
  have KBxxy := Lib.hid (KBxxy.out.alloc (.cells #[.slice Ag ng cg, .string (resE R)] 29))
  have HRs := Lib.hid (HRs.out.alloc (.cells #[.slice Ag ng cg, .string (resE R)] 29))
  have HRxx := Lib.hid (HRxx.out.alloc (.cells #[.slice Ag ng cg, .string (resE R)] 29))
  have HRxy := Lib.hid (HRxy.out.alloc (.cells #[.slice Ag ng cg, .string (resE R)] 29))
  have HRg := Lib.hid (HRg.out.alloc (.cells #[.slice Ag ng cg, .string (resE R)] 29))
  have KBbg := Lib.hid (Blk.new u4 29 #[.slice Ag ng cg, .string (resE R)])
  have HB := Lib.hid (HB.out.alloc HB.out.size (.cells #[.slice Ag ng cg, .string (resE R)] 29))
  have HC := Lib.hid (eqTree_same Ag As ng ns cg cs (resL R) (resE R) _ (RS.of_own HRg.out) (RS.of_own HRs.out) (by omega))
  have hbb : (R.isSome != R.isSome) = false := by simp
  have ka00 : u4.cell? ⟨w.heap.size, 0, none⟩ = some (.slice a0 len0 cap0) := by have := KBa0.out.cell 0; rwa [World.cell?_alloc_lt _ _ _ (KLa0.out)] at this
  have ka01 : u4.cell? ⟨w.heap.size, 1, none⟩ = some (.string s0) := by have := KBa0.out.cell 1; rwa [World.cell?_alloc_lt _ _ _ (KLa0.out)] at this
  have ka0l : w.heap.size < u4.heap.size := KLa0.out
  have ka10 : u4.cell? ⟨(w.heap.size + 1), 0, none⟩ = some (.slice a1 len1 cap1) := by have := KBa1.out.cell 0; rwa [World.cell?_alloc_lt _ _ _ (KLa1.out)] at this
  have ka11 : u4.cell? ⟨(w.heap.size + 1), 1, none⟩ = some (.string s1) := by have := KBa1.out.cell 1; rwa [World.cell?_alloc_lt _ _ _ (KLa1.out)] at this
  have ka1l : (w.heap.size + 1) < u4.heap.size := KLa1.out
  have kbs0 : u4.cell? ⟨gs, 0, none⟩ = some (.slice As ns cs) := by have := KBbs.out.cell 0; rwa [World.cell?_alloc_lt _ _ _ (KLbs.out)] at this
  have kbs1 : u4.cell? ⟨gs, 1, none⟩ = some (.string (resE R)) := by have := KBbs.out.cell 1; rwa [World.cell?_alloc_lt _ _ _ (KLbs.out)] at this
  have kbsl : gs < u4.heap.size := KLbs.out
  have kxxx0 : u4.cell? ⟨u2.heap.size, 0, none⟩ = some (.slice (some Bxx) len0 len0) := by have := KBxxx.out.cell 0; rwa [World.cell?_alloc_lt _ _ _ (KLxxx.out)] at this
  have kxxx1 : u4.cell? ⟨u2.heap.size, 1, none⟩ = some (.string s0) := by have := KBxxx.out.cell 1; rwa [World.cell?_alloc_lt _ _ _ (KLxxx.out)] at this
  have kxxxl : u2.heap.size < u4.heap.size := KLxxx.out
  have kxxy0 : u4.cell? ⟨u3.heap.size, 0, none⟩ = some (.slice (some Bxy) len1 len1) := by have := KBxxy.out.cell 0; rwa [World.cell?_alloc_lt _ _ _ (KLxxy.out)] at this
  have kxxy1 : u4.cell? ⟨u3.heap.size, 1, none⟩ = some (.string s1) := by have := KBxxy.out.cell 1; rwa [World.cell?_alloc_lt _ _ _ (KLxxy.out)] at this
  have kxxyl : u3.heap.size < u4.heap.size := KLxxy.out
  go_wp2_with fail
  refine HC.out.mono ?_
  rintro e u5 ⟨rfl, hb⟩
  clear ka00 ka01 ka0l ka10 ka11 ka1l kbs0 kbs1 kbsl kxxx0 kxxx1 kxxxl kxxy0 kxxy1 kxxyl
  have KBa0 := Lib.hid (KBa0.out.below hb KBa0.out.lt)
  have KBa1 := Lib.hid (KBa1.out.below hb KBa1.out.lt)
  have KBbs := Lib.hid (KBbs.out.below hb KBbs.out.lt)
  have KBxxx := Lib.hid (KBxxx.out.below hb KBxxx.out.lt)
  have KBxxy := Lib.hid (KBxxy.out.below hb KBxxy.out.lt)
  have KBbg := Lib.hid (KBbg.out.below hb KBbg.out.lt)
  have HRs := Lib.hid (own_below0 HRs.out hb)
  have HRxx := Lib.hid (own_below0 HRxx.out hb)
  have HRxy := Lib.hid (own_below0 HRxy.out hb)
  have HRg := Lib.hid (own_below0 HRg.out hb)
  have HB := Lib.hid (HB.out.trans (hb.mono HB.out.size))
  clear hb HC hbb
  have ka00 : u5.cell? ⟨w.heap.size, 0, none⟩ = some (.slice a0 len0 cap0) := KBa0.out.cell 0
  have ka01 : u5.cell? ⟨w.heap.size, 1, none⟩ = some (.string s0) := KBa0.out.cell 1
  have ka0l : w.heap.size < u5.heap.size := KBa0.out.lt
  have ka10 : u5.cell? ⟨(w.heap.size + 1), 0, none⟩ = some (.slice a1 len1 cap1) := KBa1.out.cell 0
  have ka11 : u5.cell? ⟨(w.heap.size + 1), 1, none⟩ = some (.string s1) := KBa1.out.cell 1
  have ka1l : (w.heap.size + 1) < u5.heap.size := KBa1.out.lt
  have kbs0 : u5.cell? ⟨gs, 0, none⟩ = some (.slice As ns cs) := KBbs.out.cell 0
  have kbs1 : u5.cell? ⟨gs, 1, none⟩ = some (.string (resE R)) := KBbs.out.cell 1
  have kbsl : gs < u5.heap.size := KBbs.out.lt
  have kxxx0 : u5.cell? ⟨u2.heap.size, 0, none⟩ = some (.slice (some Bxx) len0 len0) := KBxxx.out.cell 0
  have kxxx1 : u5.cell? ⟨u2.heap.size, 1, none⟩ = some (.string s0) := KBxxx.out.cell 1
  have kxxxl : u2.heap.size < u5.heap.size := KBxxx.out.lt
  have kxxy0 : u5.cell? ⟨u3.heap.size, 0, none⟩ = some (.slice (some Bxy) len1 len1) := KBxxy.out.cell 0
  have kxxy1 : u5.cell? ⟨u3.heap.size, 1, none⟩ = some (.string s1) := KBxxy.out.cell 1
  have kxxyl : u3.heap.size < u5.heap.size := KBxxy.out.lt
  have kbg0 : u5.cell? ⟨u4.heap.size, 0, none⟩ = some (.slice Ag ng cg) := KBbg.out.cell 0
  have kbg1 : u5.cell? ⟨u4.heap.size, 1, none⟩ = some (.string (resE R)) := KBbg.out.cell 1
  have kbgl : u4.heap.size < u5.heap.size := KBbg.out.lt
  go_wp2_with fail
  have x0 : u5.drew.cell? ⟨u2.heap.size, 0, none⟩ = some (.slice (some Bxx) len0 len0) := kxxx0
  have x1 : u5.drew.cell? ⟨u2.heap.size, 1, none⟩ = some (.string s0) := kxxx1
  have y0 : u5.drew.cell? ⟨w.heap.size, 0, none⟩ = some (.slice a0 len0 cap0) := ka00
  have y1 : u5.drew.cell? ⟨w.heap.size, 1, none⟩ = some (.string s0) := ka01
  have HCT := Lib.hid (toTree_any a0 len0 cap0 z0 s0 u5.drew (HA0.out _ HB.out.drew) hn0)
  have HCK : Hid (∀ W : World, Below u5.heap.size u5 W → W.cell? ⟨u2.heap.size, 0, none⟩ = some (.slice (some Bxx) len0 len0) ∧ W.cell? ⟨u2.heap.size, 1, none⟩ = some (.string s0) ∧ W.cell? ⟨w.heap.size, 0, none⟩ = some (.slice a0 len0 cap0) ∧ W.cell? ⟨w.heap.size, 1, none⟩ = some (.string s0) ∧ RS W (some Bxx) len0 z0) := fun W hW => ⟨(KBxxx.out.below hW KBxxx.out.lt).cell 0, (KBxxx.out.below hW KBxxx.out.lt).cell 1, (KBa0.out.below hW KBa0.out.lt).cell 0, (KBa0.out.below hW KBa0.out.lt).cell 1, RS.of_own (own_below0 HRxx.out hW)⟩
  refine wp_region_held_drew (S := (fun w' => w'.cell? ⟨u2.heap.size, 0, none⟩ = some (.slice (some Bxx) len0 len0) ∧ w'.cell? ⟨u2.heap.size, 1, none⟩ = some (.string s0) ∧ w'.cell? ⟨w.heap.size, 0, none⟩ = some (.slice a0 len0 cap0) ∧ w'.cell? ⟨w.heap.size, 1, none⟩ = some (.string s0))) (by kernel_rfl) ?_ (fun hHeld => ?_)
  · exact ⟨x0, x1, y0, y1⟩
  refine wpAnyH_take (i := 0) (v := .agg #[.slice (some Bxx) len0 len0, .string s0]) (by rw [List.getElem?_toArray]; rfl) (by kernel_rfl) (by kernel_rfl) (by kernel_rfl) (by exact fun _ _ _ h => h) (Or.inl ⟨by rfl, fun w hSw => by (try dsimp only at hSw); go_simp⟩) (by assumption) ?_
  try simp only [Act.put, List.setIfInBounds_toArray, List.set_cons_zero, List.set_cons_succ]
  refine wpAnyH_take (i := 1) (v := .agg #[.slice a0 len0 cap0, .string s0]) (by rw [List.getElem?_toArray]; rfl) (by kernel_rfl) (by kernel_rfl) (by kernel_rfl) (by exact fun _ _ _ h => h) (Or.inl ⟨by rfl, fun w hSw => by (try dsimp only at hSw); go_simp⟩) (by assumption) ?_
  try simp only [Act.put, List.setIfInBounds_toArray, List.set_cons_zero, List.set_cons_succ]
  refine wpAnyH_ready (rs := [2]) (by kernel_rfl) (by simp) ?_
  refine AllReadyH.cons (o := _) (by rw [List.getElem?_toArray]; rfl) (fun K hK => ?_) AllReadyH.nil
  go_simp
  refine HCT.out.mono ?_
  rintro e q1 ⟨BB, rfl, hoq, hbq⟩
  have hbq : Below u5.heap.size u5 q1 := ⟨hbq.os, hbq.tape, hbq.output, hbq.size, fun k hk => hbq.block k hk⟩
  obtain ⟨x0, x1, y0, y1, hrx⟩ := HCK.out q1 hbq
  refine hK.out _ _ ?_ (fun hHeld2 => ?_)
  · exact ⟨x0, x1, y0, y1⟩
  clear hK K
  try simp only [Act.put, List.setIfInBounds_toArray, List.set_cons_zero, List.set_cons_succ]
  refine wpAnyH_ready (rs := [3]) (by kernel_rfl) (by simp) ?_
  refine AllReadyH.cons (o := _) (by rw [List.getElem?_toArray]; rfl) (fun K hK => ?_) AllReadyH.nil
  go_simp
  refine (eqTree_same (some Bxx) (some BB) len0 len0 len0 len0 z0 s0 _ hrx (RS.of_own hoq) hn0).mono ?_
  rintro e u6 ⟨rfl, hbu⟩
  have hb := hbq.trans (hbu.mono hbq.size)
  obtain ⟨x0, x1, y0, y1, _⟩ := HCK.out u6 hb
  refine hK.out _ _ ?_ (fun hHeld3 => ?_)
  · exact ⟨x0, x1, y0, y1⟩
  clear hK K
  try simp only [Act.put, List.setIfInBounds_toArray, List.set_cons_zero, List.set_cons_succ]
  refine wpAnyH_take (i := 4) (v := .bool false) (by rw [List.getElem?_toArray]; rfl) (by kernel_rfl) (by kernel_rfl) (by kernel_rfl) (by exact fun _ _ _ h => h) (Or.inl ⟨by rfl, fun w hSw => by (try dsimp only at hSw); go_simp⟩) (by assumption) ?_
  try simp only [Act.put, List.setIfInBounds_toArray, List.set_cons_zero, List.set_cons_succ]
  refine wpAnyH_done (by kernel_rfl) ?_ _
  clear hHeld x0 x1 y0 y1
  clear ka00 ka01 ka0l ka10 ka11 ka1l kbs0 kbs1 kbsl kxxx0 kxxx1 kxxxl kxxy0 kxxy1 kxxyl kbg0 kbg1 kbgl
  have KBa0 := Lib.hid (KBa0.out.below hb KBa0.out.lt)
  have KBa1 := Lib.hid (KBa1.out.below hb KBa1.out.lt)
  have KBbs := Lib.hid (KBbs.out.below hb KBbs.out.lt)
  have KBxxx := Lib.hid (KBxxx.out.below hb KBxxx.out.lt)
  have KBxxy := Lib.hid (KBxxy.out.below hb KBxxy.out.lt)
  have KBbg := Lib.hid (KBbg.out.below hb KBbg.out.lt)
  have HRs := Lib.hid (own_below0 HRs.out hb)
  have HRxx := Lib.hid (own_below0 HRxx.out hb)
  have HRxy := Lib.hid (own_below0 HRxy.out hb)
  have HRg := Lib.hid (own_below0 HRg.out hb)
  have HB := Lib.hid (HB.out.trans (hb.mono HB.out.size))
  clear hb hbq hbu hoq hrx HCT HCK
  have ka00 : u6.cell? ⟨w.heap.size, 0, none⟩ = some (.slice a0 len0 cap0) := KBa0.out.cell 0
  have ka01 : u6.cell? ⟨w.heap.size, 1, none⟩ = some (.string s0) := KBa0.out.cell 1
  have ka0l : w.heap.size < u6.heap.size := KBa0.out.lt
  have ka10 : u6.cell? ⟨(w.heap.size + 1), 0, none⟩ = some (.slice a1 len1 cap1) := KBa1.out.cell 0
  have ka11 : u6.cell? ⟨(w.heap.size + 1), 1, none⟩ = some (.string s1) := KBa1.out.cell 1
  have ka1l : (w.heap.size + 1) < u6.heap.size := KBa1.out.lt
  have kbs0 : u6.cell? ⟨gs, 0, none⟩ = some (.slice As ns cs) := KBbs.out.cell 0
  have kbs1 : u6.cell? ⟨gs, 1, none⟩ = some (.string (resE R)) := KBbs.out.cell 1
  have kbsl : gs < u6.heap.size := KBbs.out.lt
  have kxxx0 : u6.cell? ⟨u2.heap.size, 0, none⟩ = some (.slice (some Bxx) len0 len0) := KBxxx.out.cell 0
  have kxxx1 : u6.cell? ⟨u2.heap.size, 1, none⟩ = some (.string s0) := KBxxx.out.cell 1
  have kxxxl : u2.heap.size < u6.heap.size := KBxxx.out.lt
  have kxxy0 : u6.cell? ⟨u3.heap.size, 0, none⟩ = some (.slice (some Bxy) len1 len1) := KBxxy.out.cell 0
  have kxxy1 : u6.cell? ⟨u3.heap.size, 1, none⟩ = some (.string s1) := KBxxy.out.cell 1
  have kxxyl : u3.heap.size < u6.heap.size := KBxxy.out.lt
  have kbg0 : u6.cell? ⟨u4.heap.size, 0, none⟩ = some (.slice Ag ng cg) := KBbg.out.cell 0
  have kbg1 : u6.cell? ⟨u4.heap.size, 1, none⟩ = some (.string (resE R)) := KBbg.out.cell 1
  have kbgl : u4.heap.size < u6.heap.size := KBbg.out.lt
  go_wp2_with fail
  have x0 : u6.drew.cell? ⟨u3.heap.size, 0, none⟩ = some (.slice (some Bxy) len1 len1) := kxxy0
  have x1 : u6.drew.cell? ⟨u3.heap.size, 1, none⟩ = some (.string s1) := kxxy1
  have y0 : u6.drew.cell? ⟨(w.heap.size + 1), 0, none⟩ = some (.slice a1 len1 cap1) := ka10
  have y1 : u6.drew.cell? ⟨(w.heap.size + 1), 1, none⟩ = some (.string s1) := ka11
  have HCT := Lib.hid (toTree_any a1 len1 cap1 z1 s1 u6.drew (HA1.out _ HB.out.drew) hn1)
  have HCK : Hid (∀ W : World, Below u6.heap.size u6 W → W.cell? ⟨u3.heap.size, 0, none⟩ = some (.slice (some Bxy) len1 len1) ∧ W.cell? ⟨u3.heap.size, 1, none⟩ = some (.string s1) ∧ W.cell? ⟨(w.heap.size + 1), 0, none⟩ = some (.slice a1 len1 cap1) ∧ W.cell? ⟨(w.heap.size + 1), 1, none⟩ = some (.string s1) ∧ RS W (some Bxy) len1 z1) := fun W hW => ⟨(KBxxy.out.below hW KBxxy.out.lt).cell 0, (KBxxy.out.below hW KBxxy.out.lt).cell 1, (KBa1.out.below hW KBa1.out.lt).cell 0, (KBa1.out.below hW KBa1.out.lt).cell 1, RS.of_own (own_below0 HRxy.out hW)⟩
  refine wp_region_held_drew (S := (fun w' => w'.cell? ⟨u3.heap.size, 0, none⟩ = some (.slice (some Bxy) len1 len1) ∧ w'.cell? ⟨u3.heap.size, 1, none⟩ = some (.string s1) ∧ w'.cell? ⟨(w.heap.size + 1), 0, none⟩ = some (.slice a1 len1 cap1) ∧ w'.cell? ⟨(w.heap.size + 1), 1, none⟩ = some (.string s1))) (by kernel_rfl) ?_ (fun hHeld => ?_)
  · exact ⟨x0, x1, y0, y1⟩
  refine wpAnyH_take (i := 0) (v := .agg #[.slice (some Bxy) len1 len1, .string s1]) (by rw [List.getElem?_toArray]; rfl) (by kernel_rfl) (by kernel_rfl) (by kernel_rfl) (by exact fun _ _ _ h => h) (Or.inl ⟨by rfl, fun w hSw => by (try dsimp only at hSw); go_simp⟩) (by assumption) ?_
  try simp only [Act.put, List.setIfInBounds_toArray, List.set_cons_zero, List.set_cons_succ]
  refine wpAnyH_take (i := 1) (v := .agg #[.slice a1 len1 cap1, .string s1]) (by rw [List.getElem?_toArray]; rfl) (by kernel_rfl) (by kernel_rfl) (by kernel_rfl) (by exact fun _ _ _ h => h) (Or.inl ⟨by rfl, fun w hSw => by (try dsimp only at hSw); go_simp⟩) (by assumption) ?_
  try simp only [Act.put, List.setIfInBounds_toArray, List.set_cons_zero, List.set_cons_succ]
  refine wpAnyH_ready (rs := [2]) (by kernel_rfl) (by simp) ?_
  refine AllReadyH.cons (o := _) (by rw [List.getElem?_toArray]; rfl) (fun K hK => ?_) AllReadyH.nil
  go_simp
  refine HCT.out.mono ?_
  rintro e q1 ⟨BB, rfl, hoq, hbq⟩
  have hbq : Below u6.heap.size u6 q1 := ⟨hbq.os, hbq.tape, hbq.output, hbq.size, fun k hk => hbq.block k hk⟩
  obtain ⟨x0, x1, y0, y1, hrx⟩ := HCK.out q1 hbq
  refine hK.out _ _ ?_ (fun hHeld2 => ?_)
  · exact ⟨x0, x1, y0, y1⟩
  clear hK K
  try simp only [Act.put, List.setIfInBounds_toArray, List.set_cons_zero, List.set_cons_succ]
  refine wpAnyH_ready (rs := [3]) (by kernel_rfl) (by simp) ?_
  refine AllReadyH.cons (o := _) (by rw [List.getElem?_toArray]; rfl) (fun K hK => ?_) AllReadyH.nil
  go_simp
  refine (eqTree_same (some Bxy) (some BB) len1 len1 len1 len1 z1 s1 _ hrx (RS.of_own hoq) hn1).mono ?_
  rintro e u7 ⟨rfl, hbu⟩
  have hb := hbq.trans (hbu.mono hbq.size)
  obtain ⟨x0, x1, y0, y1, _⟩ := HCK.out u7 hb
  refine hK.out _ _ ?_ (fun hHeld3 => ?_)
  · exact ⟨x0, x1, y0, y1⟩
  clear hK K
  try simp only [Act.put, List.setIfInBounds_toArray, List.set_cons_zero, List.set_cons_succ]
  refine wpAnyH_take (i := 4) (v := .bool false) (by rw [List.getElem?_toArray]; rfl) (by kernel_rfl) (by kernel_rfl) (by kernel_rfl) (by exact fun _ _ _ h => h) (Or.inl ⟨by rfl, fun w hSw => by (try dsimp only at hSw); go_simp⟩) (by assumption) ?_
  try simp only [Act.put, List.setIfInBounds_toArray, List.set_cons_zero, List.set_cons_succ]
  refine wpAnyH_done (by kernel_rfl) ?_ _
  clear hHeld x0 x1 y0 y1
  clear ka00 ka01 ka0l ka10 ka11 ka1l kbs0 kbs1 kbsl kxxx0 kxxx1 kxxxl kxxy0 kxxy1 kxxyl kbg0 kbg1 kbgl
  have KBa0 := Lib.hid (KBa0.out.below hb KBa0.out.lt)
  have KBa1 := Lib.hid (KBa1.out.below hb KBa1.out.lt)
  have KBbs := Lib.hid (KBbs.out.below hb KBbs.out.lt)
  have KBxxx := Lib.hid (KBxxx.out.below hb KBxxx.out.lt)
  have KBxxy := Lib.hid (KBxxy.out.below hb KBxxy.out.lt)
  have KBbg := Lib.hid (KBbg.out.below hb KBbg.out.lt)
  have HRs := Lib.hid (own_below0 HRs.out hb)
  have HRxx := Lib.hid (own_below0 HRxx.out hb)
  have HRxy := Lib.hid (own_below0 HRxy.out hb)
  have HRg := Lib.hid (own_below0 HRg.out hb)
  have HB := Lib.hid (HB.out.trans (hb.mono HB.out.size))
  clear hb hbq hbu hoq hrx HCT HCK
  have HC := Lib.hid (markTree_any _ (some Bxx) len0 len0 1 _ s0 _ HRxx.out (by omega) (by omega) (by omega))
  have ka00 : u7.cell? ⟨w.heap.size, 0, none⟩ = some (.slice a0 len0 cap0) := KBa0.out.cell 0
  have ka01 : u7.cell? ⟨w.heap.size, 1, none⟩ = some (.string s0) := KBa0.out.cell 1
  have ka0l : w.heap.size < u7.heap.size := KBa0.out.lt
  have ka10 : u7.cell? ⟨(w.heap.size + 1), 0, none⟩ = some (.slice a1 len1 cap1) := KBa1.out.cell 0
  have ka11 : u7.cell? ⟨(w.heap.size + 1), 1, none⟩ = some (.string s1) := KBa1.out.cell 1
  have ka1l : (w.heap.size + 1) < u7.heap.size := KBa1.out.lt
  have kbs0 : u7.cell? ⟨gs, 0, none⟩ = some (.slice As ns cs) := KBbs.out.cell 0
  have kbs1 : u7.cell? ⟨gs, 1, none⟩ = some (.string (resE R)) := KBbs.out.cell 1
  have kbsl : gs < u7.heap.size := KBbs.out.lt
  have kxxx0 : u7.cell? ⟨u2.heap.size, 0, none⟩ = some (.slice (some Bxx) len0 len0) := KBxxx.out.cell 0
  have kxxx1 : u7.cell? ⟨u2.heap.size, 1, none⟩ = some (.string s0) := KBxxx.out.cell 1
  have kxxxl : u2.heap.size < u7.heap.size := KBxxx.out.lt
  have kxxy0 : u7.cell? ⟨u3.heap.size, 0, none⟩ = some (.slice (some Bxy) len1 len1) := KBxxy.out.cell 0
  have kxxy1 : u7.cell? ⟨u3.heap.size, 1, none⟩ = some (.string s1) := KBxxy.out.cell 1
  have kxxyl : u3.heap.size < u7.heap.size := KBxxy.out.lt
  have kbg0 : u7.cell? ⟨u4.heap.size, 0, none⟩ = some (.slice Ag ng cg) := KBbg.out.cell 0
  have kbg1 : u7.cell? ⟨u4.heap.size, 1, none⟩ = some (.string (resE R)) := KBbg.out.cell 1
  have kbgl : u4.heap.size < u7.heap.size := KBbg.out.lt
  go_wp2_with fail
  refine HC.out.mono ?_
  rintro e u8 ⟨rfl, hown, hg⟩
  clear ka00 ka01 ka0l ka10 ka11 ka1l kbs0 kbs1 kbsl kxxx0 kxxx1 kxxxl kxxy0 kxxy1 kxxyl kbg0 kbg1 kbgl
  have KBa0 := Lib.hid (KBa0.out.grown hg (own_blk_ne HRxx.out KBa0.out (by decide)).symm)
  have KBa1 := Lib.hid (KBa1.out.grown hg (own_blk_ne HRxx.out KBa1.out (by decide)).symm)
  have KBbs := Lib.hid (KBbs.out.grown hg (own_blk_ne HRxx.out KBbs.out (by decide)).symm)
  have KBxxx := Lib.hid (KBxxx.out.grown hg (own_blk_ne HRxx.out KBxxx.out (by decide)).symm)
  have KBxxy := Lib.hid (KBxxy.out.grown hg (own_blk_ne HRxx.out KBxxy.out (by decide)).symm)
  have KBbg := Lib.hid (KBbg.out.grown hg (own_blk_ne HRxx.out KBbg.out (by decide)).symm)
  have HRs := Lib.hid (own_apart4 HRs.out HRxx.out hg APs_xx.out)
  have HRxy := Lib.hid (own_apart4 HRxy.out HRxx.out hg (fun g h1 h2 => APxx_xy.out g h2 h1))
  have HRg := Lib.hid (own_apart4 HRg.out HRxx.out hg (fun g h1 h2 => APxx_g.out g h2 h1))
  have HB := Lib.hid (HB.out.grown hg HB.out.size (fun k e => Nat.le_trans HLxx.out (HRxx.out.lt k e).1))
  have HRxx := Lib.hid hown
  clear hg hown
  clear HC
  have hk1 : 1 + (len0 : Int) ≤ 1048577 := by omega
  have hc := markTree_any _ (some Bxy) len1 len1 (1 + len0) _ s1 _ HRxy.out (by omega) (by omega) (by omega)
  rw [show ((1 + len0 : Nat) : Int) = 1 + (len0 : Int) by omega] at hc
  have HC := Lib.hid hc
  clear hc
  have ka00 : u8.cell? ⟨w.heap.size, 0, none⟩ = some (.slice a0 len0 cap0) := KBa0.out.cell 0
  have ka01 : u8.cell? ⟨w.heap.size, 1, none⟩ = some (.string s0) := KBa0.out.cell 1
  have ka0l : w.heap.size < u8.heap.size := KBa0.out.lt
  have ka10 : u8.cell? ⟨(w.heap.size + 1), 0, none⟩ = some (.slice a1 len1 cap1) := KBa1.out.cell 0
  have ka11 : u8.cell? ⟨(w.heap.size + 1), 1, none⟩ = some (.string s1) := KBa1.out.cell 1
  have ka1l : (w.heap.size + 1) < u8.heap.size := KBa1.out.lt
  have kbs0 : u8.cell? ⟨gs, 0, none⟩ = some (.slice As ns cs) := KBbs.out.cell 0
  have kbs1 : u8.cell? ⟨gs, 1, none⟩ = some (.string (resE R)) := KBbs.out.cell 1
  have kbsl : gs < u8.heap.size := KBbs.out.lt
  have kxxx0 : u8.cell? ⟨u2.heap.size, 0, none⟩ = some (.slice (some Bxx) len0 len0) := KBxxx.out.cell 0
  have kxxx1 : u8.cell? ⟨u2.heap.size, 1, none⟩ = some (.string s0) := KBxxx.out.cell 1
  have kxxxl : u2.heap.size < u8.heap.size := KBxxx.out.lt
  have kxxy0 : u8.cell? ⟨u3.heap.size, 0, none⟩ = some (.slice (some Bxy) len1 len1) := KBxxy.out.cell 0
  have kxxy1 : u8.cell? ⟨u3.heap.size, 1, none⟩ = some (.string s1) := KBxxy.out.cell 1
  have kxxyl : u3.heap.size < u8.heap.size := KBxxy.out.lt
  have kbg0 : u8.cell? ⟨u4.heap.size, 0, none⟩ = some (.slice Ag ng cg) := KBbg.out.cell 0
  have kbg1 : u8.cell? ⟨u4.heap.size, 1, none⟩ = some (.string (resE R)) := KBbg.out.cell 1
  have kbgl : u4.heap.size < u8.heap.size := KBbg.out.lt
  go_wp2_with fail
  refine HC.out.mono ?_
  rintro e u9 ⟨rfl, hown, hg⟩
  clear ka00 ka01 ka0l ka10 ka11 ka1l kbs0 kbs1 kbsl kxxx0 kxxx1 kxxxl kxxy0 kxxy1 kxxyl kbg0 kbg1 kbgl
  have KBa0 := Lib.hid (KBa0.out.grown hg (own_blk_ne HRxy.out KBa0.out (by decide)).symm)
  have KBa1 := Lib.hid (KBa1.out.grown hg (own_blk_ne HRxy.out KBa1.out (by decide)).symm)
  have KBbs := Lib.hid (KBbs.out.grown hg (own_blk_ne HRxy.out KBbs.out (by decide)).symm)
  have KBxxx := Lib.hid (KBxxx.out.grown hg (own_blk_ne HRxy.out KBxxx.out (by decide)).symm)
  have KBxxy := Lib.hid (KBxxy.out.grown hg (own_blk_ne HRxy.out KBxxy.out (by decide)).symm)
  have KBbg := Lib.hid (KBbg.out.grown hg (own_blk_ne HRxy.out KBbg.out (by decide)).symm)
  have HRs := Lib.hid (own_apart4 HRs.out HRxy.out hg APs_xy.out)
  have HRxx := Lib.hid (own_apart4 HRxx.out HRxy.out hg APxx_xy.out)
  have HRg := Lib.hid (own_apart4 HRg.out HRxy.out hg (fun g h1 h2 => APxy_g.out g h2 h1))
  have HB := Lib.hid (HB.out.grown hg HB.out.size (fun k e => Nat.le_trans HLxy.out (HRxy.out.lt k e).1))
  have HRxy := Lib.hid hown
  clear hg hown
  clear HC
  have hq1 : ¬ ((1 : Int) + (len0 : Int) + (len1 : Int) < 0) := by omega
  have HC := Lib.hid (eqTree_same Ag As ng ns cg cs (resL R) (resE R) _ (RS.of_own HRg.out) (RS.of_own HRs.out) (by omega))
  have hbb : (R.isSome != R.isSome) = false := by simp
  have ka00 : u9.cell? ⟨w.heap.size, 0, none⟩ = some (.slice a0 len0 cap0) := KBa0.out.cell 0
  have ka01 : u9.cell? ⟨w.heap.size, 1, none⟩ = some (.string s0) := KBa0.out.cell 1
  have ka0l : w.heap.size < u9.heap.size := KBa0.out.lt
  have ka10 : u9.cell? ⟨(w.heap.size + 1), 0, none⟩ = some (.slice a1 len1 cap1) := KBa1.out.cell 0
  have ka11 : u9.cell? ⟨(w.heap.size + 1), 1, none⟩ = some (.string s1) := KBa1.out.cell 1
  have ka1l : (w.heap.size + 1) < u9.heap.size := KBa1.out.lt
  have kbs0 : u9.cell? ⟨gs, 0, none⟩ = some (.slice As ns cs) := KBbs.out.cell 0
  have kbs1 : u9.cell? ⟨gs, 1, none⟩ = some (.string (resE R)) := KBbs.out.cell 1
  have kbsl : gs < u9.heap.size := KBbs.out.lt
  have kxxx0 : u9.cell? ⟨u2.heap.size, 0, none⟩ = some (.slice (some Bxx) len0 len0) := KBxxx.out.cell 0
  have kxxx1 : u9.cell? ⟨u2.heap.size, 1, none⟩ = some (.string s0) := KBxxx.out.cell 1
  have kxxxl : u2.heap.size < u9.heap.size := KBxxx.out.lt
  have kxxy0 : u9.cell? ⟨u3.heap.size, 0, none⟩ = some (.slice (some Bxy) len1 len1) := KBxxy.out.cell 0
  have kxxy1 : u9.cell? ⟨u3.heap.size, 1, none⟩ = some (.string s1) := KBxxy.out.cell 1
  have kxxyl : u3.heap.size < u9.heap.size := KBxxy.out.lt
  have kbg0 : u9.cell? ⟨u4.heap.size, 0, none⟩ = some (.slice Ag ng cg) := KBbg.out.cell 0
  have kbg1 : u9.cell? ⟨u4.heap.size, 1, none⟩ = some (.string (resE R)) := KBbg.out.cell 1
  have kbgl : u4.heap.size < u9.heap.size := KBbg.out.lt
  go_wp2_with fail
  refine HC.out.mono ?_
  rintro e u10 ⟨rfl, hb⟩
  clear ka00 ka01 ka0l ka10 ka11 ka1l kbs0 kbs1 kbsl kxxx0 kxxx1 kxxxl kxxy0 kxxy1 kxxyl kbg0 kbg1 kbgl
  have KBa0 := Lib.hid (KBa0.out.below hb KBa0.out.lt)
  have KBa1 := Lib.hid (KBa1.out.below hb KBa1.out.lt)
  have KBbs := Lib.hid (KBbs.out.below hb KBbs.out.lt)
  have KBxxx := Lib.hid (KBxxx.out.below hb KBxxx.out.lt)
  have KBxxy := Lib.hid (KBxxy.out.below hb KBxxy.out.lt)
  have KBbg := Lib.hid (KBbg.out.below hb KBbg.out.lt)
  have HRs := Lib.hid (own_below0 HRs.out hb)
  have HRxx := Lib.hid (own_below0 HRxx.out hb)
  have HRxy := Lib.hid (own_below0 HRxy.out hb)
  have HRg := Lib.hid (own_below0 HRg.out hb)
  have HB := Lib.hid (HB.out.trans (hb.mono HB.out.size))
  clear hb HC hbb
  have HC := Lib.hid (markTree_any _ Ag ng cg 1 _ (resE R) _ HRg.out (by omega) (by omega) (by omega))
  have ka00 : u10.cell? ⟨w.heap.size, 0, none⟩ = some (.slice a0 len0 cap0) := KBa0.out.cell 0
  have ka01 : u10.cell? ⟨w.heap.size, 1, none⟩ = some (.string s0) := KBa0.out.cell 1
  have ka0l : w.heap.size < u10.heap.size := KBa0.out.lt
  have ka10 : u10.cell? ⟨(w.heap.size + 1), 0, none⟩ = some (.slice a1 len1 cap1) := KBa1.out.cell 0
  have ka11 : u10.cell? ⟨(w.heap.size + 1), 1, none⟩ = some (.string s1) := KBa1.out.cell 1
  have ka1l : (w.heap.size + 1) < u10.heap.size := KBa1.out.lt
  have kbs0 : u10.cell? ⟨gs, 0, none⟩ = some (.slice As ns cs) := KBbs.out.cell 0
  have kbs1 : u10.cell? ⟨gs, 1, none⟩ = some (.string (resE R)) := KBbs.out.cell 1
  have kbsl : gs < u10.heap.size := KBbs.out.lt
  have kxxx0 : u10.cell? ⟨u2.heap.size, 0, none⟩ = some (.slice (some Bxx) len0 len0) := KBxxx.out.cell 0
  have kxxx1 : u10.cell? ⟨u2.heap.size, 1, none⟩ = some (.string s0) := KBxxx.out.cell 1
  have kxxxl : u2.heap.size < u10.heap.size := KBxxx.out.lt
  have kxxy0 : u10.cell? ⟨u3.heap.size, 0, none⟩ = some (.slice (some Bxy) len1 len1) := KBxxy.out.cell 0
  have kxxy1 : u10.cell? ⟨u3.heap.size, 1, none⟩ = some (.string s1) := KBxxy.out.cell 1
  have kxxyl : u3.heap.size < u10.heap.size := KBxxy.out.lt
  have kbg0 : u10.cell? ⟨u4.heap.size, 0, none⟩ = some (.slice Ag ng cg) := KBbg.out.cell 0
  have kbg1 : u10.cell? ⟨u4.heap.size, 1, none⟩ = some (.string (resE R)) := KBbg.out.cell 1
  have kbgl : u4.heap.size < u10.heap.size := KBbg.out.lt
  go_wp2_with fail
  refine HC.out.mono ?_
  rintro e u11 ⟨rfl, hown, hg⟩
  clear ka00 ka01 ka0l ka10 ka11 ka1l kbs0 kbs1 kbsl kxxx0 kxxx1 kxxxl kxxy0 kxxy1 kxxyl kbg0 kbg1 kbgl
  have KBa0 := Lib.hid (KBa0.out.grown hg (own_blk_ne HRg.out KBa0.out (by decide)).symm)
  have KBa1 := Lib.hid (KBa1.out.grown hg (own_blk_ne HRg.out KBa1.out (by decide)).symm)
  have KBbs := Lib.hid (KBbs.out.grown hg (own_blk_ne HRg.out KBbs.out (by decide)).symm)
  have KBxxx := Lib.hid (KBxxx.out.grown hg (own_blk_ne HRg.out KBxxx.out (by decide)).symm)
  have KBxxy := Lib.hid (KBxxy.out.grown hg (own_blk_ne HRg.out KBxxy.out (by decide)).symm)
  have KBbg := Lib.hid (KBbg.out.grown hg (own_blk_ne HRg.out KBbg.out (by decide)).symm)
  have HRs := Lib.hid (own_apart4 HRs.out HRg.out hg APs_g.out)
  have HRxx := Lib.hid (own_apart4 HRxx.out HRg.out hg APxx_g.out)
  have HRxy := Lib.hid (own_apart4 HRxy.out HRg.out hg APxy_g.out)
  have HB := Lib.hid (HB.out.grown hg HB.out.size (fun k e => Nat.le_trans HLg.out (HRg.out.lt k e).1))
  have HRg := Lib.hid hown
  clear hg hown
  clear HC
  have HC := Lib.hid (heldTree_any Ag ng cg 1 (resE R) _ (RS.of_own HRg.out) (by omega) (by omega) (by omega))
  have ka00 : u11.cell? ⟨w.heap.size, 0, none⟩ = some (.slice a0 len0 cap0) := KBa0.out.cell 0
  have ka01 : u11.cell? ⟨w.heap.size, 1, none⟩ = some (.string s0) := KBa0.out.cell 1
  have ka0l : w.heap.size < u11.heap.size := KBa0.out.lt
  have ka10 : u11.cell? ⟨(w.heap.size + 1), 0, none⟩ = some (.slice a1 len1 cap1) := KBa1.out.cell 0
  have ka11 : u11.cell? ⟨(w.heap.size + 1), 1, none⟩ = some (.string s1) := KBa1.out.cell 1
  have ka1l : (w.heap.size + 1) < u11.heap.size := KBa1.out.lt
  have kbs0 : u11.cell? ⟨gs, 0, none⟩ = some (.slice As ns cs) := KBbs.out.cell 0
  have kbs1 : u11.cell? ⟨gs, 1, none⟩ = some (.string (resE R)) := KBbs.out.cell 1
  have kbsl : gs < u11.heap.size := KBbs.out.lt
  have kxxx0 : u11.cell? ⟨u2.heap.size, 0, none⟩ = some (.slice (some Bxx) len0 len0) := KBxxx.out.cell 0
  have kxxx1 : u11.cell? ⟨u2.heap.size, 1, none⟩ = some (.string s0) := KBxxx.out.cell 1
  have kxxxl : u2.heap.size < u11.heap.size := KBxxx.out.lt
  have kxxy0 : u11.cell? ⟨u3.heap.size, 0, none⟩ = some (.slice (some Bxy) len1 len1) := KBxxy.out.cell 0
  have kxxy1 : u11.cell? ⟨u3.heap.size, 1, none⟩ = some (.string s1) := KBxxy.out.cell 1
  have kxxyl : u3.heap.size < u11.heap.size := KBxxy.out.lt
  have kbg0 : u11.cell? ⟨u4.heap.size, 0, none⟩ = some (.slice Ag ng cg) := KBbg.out.cell 0
  have kbg1 : u11.cell? ⟨u4.heap.size, 1, none⟩ = some (.string (resE R)) := KBbg.out.cell 1
  have kbgl : u4.heap.size < u11.heap.size := KBbg.out.lt
  go_wp2_with fail
  refine HC.out.mono ?_
  rintro e u12 ⟨rfl, hb⟩
  clear ka00 ka01 ka0l ka10 ka11 ka1l kbs0 kbs1 kbsl kxxx0 kxxx1 kxxxl kxxy0 kxxy1 kxxyl kbg0 kbg1 kbgl
  have KBa0 := Lib.hid (KBa0.out.below hb KBa0.out.lt)
  have KBa1 := Lib.hid (KBa1.out.below hb KBa1.out.lt)
  have KBbs := Lib.hid (KBbs.out.below hb KBbs.out.lt)
  have KBxxx := Lib.hid (KBxxx.out.below hb KBxxx.out.lt)
  have KBxxy := Lib.hid (KBxxy.out.below hb KBxxy.out.lt)
  have KBbg := Lib.hid (KBbg.out.below hb KBbg.out.lt)
  have HRs := Lib.hid (own_below0 HRs.out hb)
  have HRxx := Lib.hid (own_below0 HRxx.out hb)
  have HRxy := Lib.hid (own_below0 HRxy.out hb)
  have HRg := Lib.hid (own_below0 HRg.out hb)
  have HB := Lib.hid (HB.out.trans (hb.mono HB.out.size))
  clear hb HC
  have hq0 : ¬ ((1 : Int) + (ng : Int) < 0) := by omega
  have HCK : Hid (∀ w' : World, Below u12.heap.size u12 w' → w'.cell? ⟨w.heap.size, 0, none⟩ = some (.slice a0 len0 cap0) ∧ w'.cell? ⟨w.heap.size, 1, none⟩ = some (.string s0) ∧ w'.cell? ⟨(w.heap.size + 1), 0, none⟩ = some (.slice a1 len1 cap1) ∧ w'.cell? ⟨(w.heap.size + 1), 1, none⟩ = some (.string s1)) := fun w' hW => ⟨(KBa0.out.below hW KBa0.out.lt).cell 0, (KBa0.out.below hW KBa0.out.lt).cell 1, (KBa1.out.below hW KBa1.out.lt).cell 0, (KBa1.out.below hW KBa1.out.lt).cell 1⟩
  have HT0 : Hid (∀ W : World, Below u12.heap.size u12 W → Calls Tryd.prog 25 #[.agg #[.slice a0 len0 cap0, .string s0]] W fun e w' => ∃ B : Addr, e = .returned (.agg #[.slice (some B) len0 len0, .string s0]) ∧ w'.ownsRow W.heap.size 9 1 (.slice (some B) len0 len0) len0 (svL z0) ∧ Below W.heap.size W w') := fun W hW => toTree_any a0 len0 cap0 z0 s0 W (HA0.out _ (HB.out.trans (hW.mono HB.out.size))) hn0
  have HT1 : Hid (∀ W : World, Below u12.heap.size u12 W → Calls Tryd.prog 25 #[.agg #[.slice a1 len1 cap1, .string s1]] W fun e w' => ∃ B : Addr, e = .returned (.agg #[.slice (some B) len1 len1, .string s1]) ∧ w'.ownsRow W.heap.size 9 1 (.slice (some B) len1 len1) len1 (svL z1) ∧ Below W.heap.size W w') := fun W hW => toTree_any a1 len1 cap1 z1 s1 W (HA1.out _ (HB.out.trans (hW.mono HB.out.size))) hn1
  have HBc : Below u12.heap.size u12 u12.drew := (Below.refl _ _).drew
  go_wp2_with fail
  rename_i Ko aKo
  apply kcut0 (fun F : Nat → Option Addr → Nat → Nat → Option (List (List (Fin 4)) × List (Fin 4)) → Addr → Addr → Act => Hid (∀ (g : Nat) (A : Option Addr) (n c : Nat) (R : Option (List (List (Fin 4)) × List (Fin 4))) (B1 B2 : Addr) (V : World), TimesOk z0 z1 s0 s1 R → Got u12 V g A n c R → Ko (F g A n c R B1 B2) V))
  case h1 =>
    intro HK
    go_region_held3 (fun w' => w'.cell? ⟨w.heap.size, 0, none⟩ = some (.slice a0 len0 cap0) ∧ w'.cell? ⟨w.heap.size, 1, none⟩ = some (.string s0) ∧ w'.cell? ⟨(w.heap.size + 1), 0, none⟩ = some (.slice a1 len1 cap1) ∧ w'.cell? ⟨(w.heap.size + 1), 1, none⟩ = some (.string s1)) (exact HCK.out _ (by first | exact HBc | exact HBc.alloc HBc.size _ | exact (got_set HBc KZ ho).1))
      (first
        | (go_at_call 25
           fail_if_success (have hh := ho1)
           refine (HT0.out _ (by first | exact HBc | exact HBc.alloc HBc.size _)).mono ?_
           rintro e q1 ⟨B1, rfl, ho1, hb1⟩
           first | (have KZ : ZBox u12 q1 u12.heap.size := new_box (X := u12) (Below.refl _ _) ⟨hb1.os, hb1.tape, hb1.output, hb1.size, fun k hk => hb1.block k hk⟩) | skip
           have HBc := bel_step (by first | exact HBc | exact HBc.alloc HBc.size _) hb1 (Nat.le_refl _))
        | (go_at_call 25
           refine (HT1.out _ (by first | exact HBc | exact HBc.alloc HBc.size _)).mono ?_
           rintro e q2 ⟨B2, rfl, ho2, hb2⟩
           have ho1 := own_below0 (by first | exact ho1 | exact ho1.alloc _) hb2
           first | (have KZ := KZ.below hb2) | (have KZ := new_box HBc hb2) | skip
           have HBc := bel_step (by first | exact HBc | exact HBc.alloc HBc.size _) hb2 (Nat.le_refl _))
        | (go_at_call 36
           refine (HIM.out _ B1 B2 (by first | exact RS.of_own ho1 | exact RS.of_own (ho1.alloc _)) (by first | exact RS.of_own ho2 | exact RS.of_own (ho2.alloc _))).mono ?_
           rintro e q3 ⟨R, hR, hb3, A, n, c, rfl, ho⟩
           have ho := got_row (by first | exact HBc | exact HBc.alloc HBc.size _) ho
           first | (have KZ := KZ.below hb3) | (have KZ := new_box HBc hb3) | skip
           first | (obtain ⟨zc0, zc1, zc2, zc3, zc4⟩ := KZ.cells) | skip
           have HBc := bel_step (by first | exact HBc | exact HBc.alloc HBc.size _) hb3 (Nat.le_refl _)))
    all_goals first
      | (have hGot := got_set HBc KZ ho
         obtain ⟨gx, hgx⟩ := KZ.ex
         rw [← hgx] at hGot ⊢
         exact HK.out gx A n c R B1 B2 _ hR hGot)
      | (have hGot := got_new HBc ho
         obtain ⟨gx, hgx⟩ : ∃ x, x = q3.heap.size := ⟨_, rfl⟩
         rw [← hgx] at hGot ⊢
         exact HK.out gx A n c R B1 B2 _ hR hGot)
  intro gh Ah nh ch R' B1 B2 u13 hR hGot
  obtain ⟨hb, hk, ho⟩ := hGot
  refine aKo _ _ ?_
  clear aKo HBc HCK HT0 HT1
  obtain rfl := HOK.out.same hR
  have HLh : Hid (w.heap.size ≤ u12.heap.size) := HB.out.size
  have APs_h := Lib.hid (apart_of4 HRs.out (Nat.le_refl _) ho)
  have APxx_h := Lib.hid (apart_of4 HRxx.out (Nat.le_refl _) ho)
  have APxy_h := Lib.hid (apart_of4 HRxy.out (Nat.le_refl _) ho)
  have APg_h := Lib.hid (apart_of4 HRg.out (Nat.le_refl _) ho)
  have KBa0 := Lib.hid (KBa0.out.below hb KBa0.out.lt)
  have KBa1 := Lib.hid (KBa1.out.below hb KBa1.out.lt)
  have KBbs := Lib.hid (KBbs.out.below hb KBbs.out.lt)
  have KBxxx := Lib.hid (KBxxx.out.below hb KBxxx.out.lt)
  have KBxxy := Lib.hid (KBxxy.out.below hb KBxxy.out.lt)
  have KBbg := Lib.hid (KBbg.out.below hb KBbg.out.lt)
  have HRs := Lib.hid (own_below0 HRs.out hb)
  have HRxx := Lib.hid (own_below0 HRxx.out hb)
  have HRxy := Lib.hid (own_below0 HRxy.out hb)
  have HRg := Lib.hid (own_below0 HRg.out hb)
  have HB := Lib.hid (HB.out.trans (hb.mono HB.out.size))
  have KBbh := Lib.hid hk
  have HRh := Lib.hid ho
  have hnh : nh ≤ 60 := by rw [← own_len HRh.out]; exact HOK.out.len
  clear hb hk ho hR
  have HC := Lib.hid (eqTree_same Ah As nh ns ch cs (resL R) (resE R) _ (RS.of_own HRh.out) (RS.of_own HRs.out) (by omega))
  have hbb : (R.isSome != R.isSome) = false := by simp
  have ka00 : u13.cell? ⟨w.heap.size, 0, none⟩ = some (.slice a0 len0 cap0) := KBa0.out.cell 0
  have ka01 : u13.cell? ⟨w.heap.size, 1, none⟩ = some (.string s0) := KBa0.out.cell 1
  have ka0l : w.heap.size < u13.heap.size := KBa0.out.lt
  have ka10 : u13.cell? ⟨(w.heap.size + 1), 0, none⟩ = some (.slice a1 len1 cap1) := KBa1.out.cell 0
  have ka11 : u13.cell? ⟨(w.heap.size + 1), 1, none⟩ = some (.string s1) := KBa1.out.cell 1
  have ka1l : (w.heap.size + 1) < u13.heap.size := KBa1.out.lt
  have kbs0 : u13.cell? ⟨gs, 0, none⟩ = some (.slice As ns cs) := KBbs.out.cell 0
  have kbs1 : u13.cell? ⟨gs, 1, none⟩ = some (.string (resE R)) := KBbs.out.cell 1
  have kbsl : gs < u13.heap.size := KBbs.out.lt
  have kxxx0 : u13.cell? ⟨u2.heap.size, 0, none⟩ = some (.slice (some Bxx) len0 len0) := KBxxx.out.cell 0
  have kxxx1 : u13.cell? ⟨u2.heap.size, 1, none⟩ = some (.string s0) := KBxxx.out.cell 1
  have kxxxl : u2.heap.size < u13.heap.size := KBxxx.out.lt
  have kxxy0 : u13.cell? ⟨u3.heap.size, 0, none⟩ = some (.slice (some Bxy) len1 len1) := KBxxy.out.cell 0
  have kxxy1 : u13.cell? ⟨u3.heap.size, 1, none⟩ = some (.string s1) := KBxxy.out.cell 1
  have kxxyl : u3.heap.size < u13.heap.size := KBxxy.out.lt
  have kbg0 : u13.cell? ⟨u4.heap.size, 0, none⟩ = some (.slice Ag ng cg) := KBbg.out.cell 0
  have kbg1 : u13.cell? ⟨u4.heap.size, 1, none⟩ = some (.string (resE R)) := KBbg.out.cell 1
  have kbgl : u4.heap.size < u13.heap.size := KBbg.out.lt
  have kbh0 : u13.cell? ⟨gh, 0, none⟩ = some (.slice Ah nh ch) := KBbh.out.cell 0
  have kbh1 : u13.cell? ⟨gh, 1, none⟩ = some (.string (resE R)) := KBbh.out.cell 1
  have kbhl : gh < u13.heap.size := KBbh.out.lt
  go_wp2_with fail
  refine HC.out.mono ?_
  rintro e u14 ⟨rfl, hb⟩
  clear ka00 ka01 ka0l ka10 ka11 ka1l kbs0 kbs1 kbsl kxxx0 kxxx1 kxxxl kxxy0 kxxy1 kxxyl kbg0 kbg1 kbgl kbh0 kbh1 kbhl
  have KBa0 := Lib.hid (KBa0.out.below hb KBa0.out.lt)
  have KBa1 := Lib.hid (KBa1.out.below hb KBa1.out.lt)
  have KBbs := Lib.hid (KBbs.out.below hb KBbs.out.lt)
  have KBxxx := Lib.hid (KBxxx.out.below hb KBxxx.out.lt)
  have KBxxy := Lib.hid (KBxxy.out.below hb KBxxy.out.lt)
  have KBbg := Lib.hid (KBbg.out.below hb KBbg.out.lt)
  have KBbh := Lib.hid (KBbh.out.below hb KBbh.out.lt)
  have HRs := Lib.hid (own_below0 HRs.out hb)
  have HRxx := Lib.hid (own_below0 HRxx.out hb)
  have HRxy := Lib.hid (own_below0 HRxy.out hb)
  have HRg := Lib.hid (own_below0 HRg.out hb)
  have HRh := Lib.hid (own_below0 HRh.out hb)
  have HB := Lib.hid (HB.out.trans (hb.mono HB.out.size))
  clear hb HC hbb
  have HC := Lib.hid (heldTree_any Ag ng cg 1 (resE R) _ (RS.of_own HRg.out) (by omega) (by omega) (by omega))
  have ka00 : u14.cell? ⟨w.heap.size, 0, none⟩ = some (.slice a0 len0 cap0) := KBa0.out.cell 0
  have ka01 : u14.cell? ⟨w.heap.size, 1, none⟩ = some (.string s0) := KBa0.out.cell 1
  have ka0l : w.heap.size < u14.heap.size := KBa0.out.lt
  have ka10 : u14.cell? ⟨(w.heap.size + 1), 0, none⟩ = some (.slice a1 len1 cap1) := KBa1.out.cell 0
  have ka11 : u14.cell? ⟨(w.heap.size + 1), 1, none⟩ = some (.string s1) := KBa1.out.cell 1
  have ka1l : (w.heap.size + 1) < u14.heap.size := KBa1.out.lt
  have kbs0 : u14.cell? ⟨gs, 0, none⟩ = some (.slice As ns cs) := KBbs.out.cell 0
  have kbs1 : u14.cell? ⟨gs, 1, none⟩ = some (.string (resE R)) := KBbs.out.cell 1
  have kbsl : gs < u14.heap.size := KBbs.out.lt
  have kxxx0 : u14.cell? ⟨u2.heap.size, 0, none⟩ = some (.slice (some Bxx) len0 len0) := KBxxx.out.cell 0
  have kxxx1 : u14.cell? ⟨u2.heap.size, 1, none⟩ = some (.string s0) := KBxxx.out.cell 1
  have kxxxl : u2.heap.size < u14.heap.size := KBxxx.out.lt
  have kxxy0 : u14.cell? ⟨u3.heap.size, 0, none⟩ = some (.slice (some Bxy) len1 len1) := KBxxy.out.cell 0
  have kxxy1 : u14.cell? ⟨u3.heap.size, 1, none⟩ = some (.string s1) := KBxxy.out.cell 1
  have kxxyl : u3.heap.size < u14.heap.size := KBxxy.out.lt
  have kbg0 : u14.cell? ⟨u4.heap.size, 0, none⟩ = some (.slice Ag ng cg) := KBbg.out.cell 0
  have kbg1 : u14.cell? ⟨u4.heap.size, 1, none⟩ = some (.string (resE R)) := KBbg.out.cell 1
  have kbgl : u4.heap.size < u14.heap.size := KBbg.out.lt
  have kbh0 : u14.cell? ⟨gh, 0, none⟩ = some (.slice Ah nh ch) := KBbh.out.cell 0
  have kbh1 : u14.cell? ⟨gh, 1, none⟩ = some (.string (resE R)) := KBbh.out.cell 1
  have kbhl : gh < u14.heap.size := KBbh.out.lt
  go_wp2_with fail
  refine HC.out.mono ?_
  rintro e u15 ⟨rfl, hb⟩
  clear ka00 ka01 ka0l ka10 ka11 ka1l kbs0 kbs1 kbsl kxxx0 kxxx1 kxxxl kxxy0 kxxy1 kxxyl kbg0 kbg1 kbgl kbh0 kbh1 kbhl
  have KBa0 := Lib.hid (KBa0.out.below hb KBa0.out.lt)
  have KBa1 := Lib.hid (KBa1.out.below hb KBa1.out.lt)
  have KBbs := Lib.hid (KBbs.out.below hb KBbs.out.lt)
  have KBxxx := Lib.hid (KBxxx.out.below hb KBxxx.out.lt)
  have KBxxy := Lib.hid (KBxxy.out.below hb KBxxy.out.lt)
  have KBbg := Lib.hid (KBbg.out.below hb KBbg.out.lt)
  have KBbh := Lib.hid (KBbh.out.below hb KBbh.out.lt)
  have HRs := Lib.hid (own_below0 HRs.out hb)
  have HRxx := Lib.hid (own_below0 HRxx.out hb)
  have HRxy := Lib.hid (own_below0 HRxy.out hb)
  have HRg := Lib.hid (own_below0 HRg.out hb)
  have HRh := Lib.hid (own_below0 HRh.out hb)
  have HB := Lib.hid (HB.out.trans (hb.mono HB.out.size))
  clear hb HC
  go_wp2
  go_ret
  exact ⟨rfl, HB.out⟩

/-! ### THE ROW's STEP -/
abbrev laidL : List (String × DataW Unit) := [("unicode/utf8.acceptRanges", Rows.laid_unicode_utf8_acceptRanges), ("unicode/utf8.first", Rows.laid_unicode_utf8_first)]
theorem laidWorld_met (os : Os) (args : Array Value) : laidMetH Tryd.prog laidL ((World.laidAll Tryd.prog os laidL).forCall (fun _ _ => 0) ⟨#[], args, []⟩).memory :=
  laidMetH_of_parts (laidMet_laidAll _ (by kernel_rfl) (by kernel_rfl)) (by kernel_rfl)

set_option maxRecDepth 100000 in
theorem lifted (os : Os) (started : os.Started) (H : Type) (enc : TypeId × Value → H) :
    ReturnsInHanded {} Tryd.checked os 11 .any (fun w args => (Rows.fnExactTreeTimesSpec.pre enc Tryd.prog Tryd.f11 [] false w args ∧ laidMetH Tryd.prog laidL w) ∧ sizedMet enc Tryd.prog Tryd.f11 (OpenSpec.ofChange Rows.fnExactTreeTimesSpec) false w args) (Rows.fnExactTreeTimesSpec.post enc Tryd.prog Tryd.f11 false true false false) := by
  refine returnsInHanded_of_change_and (C := Tryd.checked) (X := fun w _ => laidMetH Tryd.prog laidL w) (fun _ _ _ hh h => h.of_heap hh) own started (by kernel_rfl) Tryd.func11
    (ChangeSpec.witness_shaped (enc := enc) (C := Tryd.checked) (os := os) (X := fun w _ => laidMetH Tryd.prog laidL w) false (World.laidAll Tryd.prog os laidL) #[.agg #[.slice none 0 0, .string ByteArray.empty], .agg #[.slice none 0 0, .string ByteArray.empty]] 8 rfl (World.shaped_of_ZipB (by kernel_rfl) (by kernel_rfl)) (by kernel_rfl) (by kernel_rfl) (by kernel_rfl) (laidWorld_met os _)) ?_
  intro W base args ds gs before hval0 hW _ _ hL _
  have hval : ∀ (j : Nat) t v, Tryd.f11.params[j]? = some t → args[j]? = some v → Value.okWide Tryd.prog W .any base t v := hval0
  have hW' := hW
  obtain ⟨p, q, hA0, hV, rfl, hfz, hnd⟩ := hW
  have hA : DataW.TrodAll enc Tryd.prog W 0 (fun _ => true) true Tryd.f11.params.toList args.toList ds p := hA0
  rw [Tryd.params11] at hA hval
  obtain ⟨v0, vs0, d0, ds0, p0, qq0, hargs, rfl, rfl, h0, r0⟩ := trodAll_cons hA
  obtain ⟨v1, vs1, d1, ds1, p1, qq1, rfl, rfl, rfl, h1, r1⟩ := trodAll_cons r0
  obtain ⟨rfl, rfl, rfl⟩ := trodAll_nil r1
  obtain rfl : args = #[v0, v1] := by cases args; simp_all
  obtain ⟨rfl, rfl⟩ := trodVars_none hV
  have k0 := h0
  have lt0 : ∀ x ∈ p0, x.block < W.heap.size := by obtain ⟨m, hm⟩ := k0; exact DataW.trod_lt m _ _ _ hm
  obtain ⟨x0, y0, u0, t0, n0, rfl, rfl, rfl, g0, l0⟩ := Go.Joins.open_agg2 Tryd.underlying36 (by kernel_rfl) (by kernel_rfl) (hval 0 36 v0 rfl rfl) h0
  obtain ⟨a0, len0, cap0, z0, rfl, q0⟩ := open_strs0 Tryd.underlying27 Tryd.underlying9 (by kernel_rfl) g0
  obtain ⟨s0, e0, f0⟩ := open_str0 Tryd.underlying9 l0
  subst e0
  have w0 : IsTree W a0 len0 z0 s0 := ⟨q0.1, q0.2.1, q0.2.2, f0⟩
  have k1 := h1
  have lt1 : ∀ x ∈ p1, x.block < W.heap.size := by obtain ⟨m, hm⟩ := k1; exact DataW.trod_lt m _ _ _ hm
  obtain ⟨x1, y1, u1, t1, n1, rfl, rfl, rfl, g1, l1⟩ := Go.Joins.open_agg2 Tryd.underlying36 (by kernel_rfl) (by kernel_rfl) (hval 1 36 v1 rfl rfl) h1
  obtain ⟨a1, len1, cap1, z1, rfl, q1⟩ := open_strs0 Tryd.underlying27 Tryd.underlying9 (by kernel_rfl) g1
  obtain ⟨s1, e1, f1⟩ := open_str0 Tryd.underlying9 l1
  subst e1
  have w1 : IsTree W a1 len1 z1 s1 := ⟨q1.1, q1.2.1, q1.2.2, f1⟩
  clear hA0 hval0
  refine (walk a0 len0 cap0 z0 s0 a1 len1 cap1 z1 s1 W trivial w0 w1).mono fun e W' ⟨he, bel⟩ => ?_
  subst he
  exact ⟨_, rfl, _, _, _, [], _, [], hW', trodAll_mk1 (shut_bool Tryd.underlying4 _), (trodAll_cons_mk (Below.trod laidOut (by kernel_rfl) (of_decide_eq_true (by kernel_rfl)) k0 bel lt0) (trodAll_cons_mk (Below.trod laidOut (by kernel_rfl) (of_decide_eq_true (by kernel_rfl)) k1 bel lt1) trodAll_mk0)), rfl, bel.frame _, fun h => by cases h⟩

theorem over : Rows.fnExactTreeTimesRow.holds Tryd.pinned (OpenSpec.ofChange Rows.fnExactTreeTimesSpec) :=
  OpenClaim.holds_of_wide 11 Tryd.f11 rfl rfl rfl rfl rfl rfl rfl ⟨rfl, rfl, rfl, rfl, rfl⟩ rfl rfl rfl rfl rfl (by kernel_rfl) Tryd.func11 (by kernel_rfl)
    (of_decide_eq_true (by kernel_rfl)) (by unfold Func.isWrapper; first | (rw [if_pos (by decide +kernel)]; kernel_rfl) | (rw [if_neg (by decide +kernel)]; exact ⟨rfl, rfl⟩))
    (fun os started H enc _ => lifted os started H enc)

theorem proved : Rows.FnExactTreeTimesCardSaid :=
  Claim7.holds_tied_plain_at .later [] [.data, .pinned] true _ false
    over (fun _ h => by cases h) (by kernel_rfl) (fun _ h => by cases h) fnExactTreeTimes_row_tie rfl ⟨rfl, rfl⟩ (by kernel_rfl) rfl
    (fun f fn hf hfn => by
      obtain rfl : f = 11 := Option.some.inj ((show Tryd.prog.funcNamed Rows.fnExactTreeTimesRow.func = some 11 by kernel_rfl).symm.trans hf) |>.symm
      obtain rfl : fn = Tryd.f11 := (Option.some.inj (Tryd.func11.symm.trans hfn)).symm
      exact ⟨by kernel_rfl, fun j t ht => by
        rw [Tryd.params11] at ht
        rcases j with _ | j
        · have h0 : t = 36 := by simpa using ht.symm
          subst h0
          exact (show Tryd.prog.wantsStandIn 36 = false by kernel_rfl)
        rcases j with _ | j
        · have h1 : t = 36 := by simpa using ht.symm
          subst h1
          exact (show Tryd.prog.wantsStandIn 36 = false by kernel_rfl)
        simp at ht⟩)
    (by kernel_rfl)
#print axioms proved
end Go.Proofs.YtlcjgppclclkoaaDoor.fnExactTreeTimes

