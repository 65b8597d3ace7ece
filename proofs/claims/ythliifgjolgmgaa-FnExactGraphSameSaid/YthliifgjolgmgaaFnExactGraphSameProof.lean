/-
  FnExactGraphSame: for every input the law returns true and leaves its arguments as they were. No condition.
-/
import Derived.Test.YthliifgjolgmgaaRows
import Derived.Test.YthliifgjolgmgaaHf
import Derived.Test.YthliifgjolgmgaaGt
import Derived.Test.YthliifgjolgmgaaLg
import Derived.WalkKit
import Derived.Deep.QuietTactic
import Derived.BigQuiet
import Derived.Outline
import Derived.ProofKit
import Derived.OpenShut
import Derived.ShutString
import Derived.ChangeOld
import Derived.Below
namespace Go.Proofs.Ythliifgjolgmgaa.fnExactGraphSame
set_option maxRecDepth 100000
open Go.ChangeShapes Go.WideShapes Go.ChangeAt Go.RowKit
open Go.ChangeMaps (open_string shut_string)
set_option linter.unusedVariables false

theorem own : ownKnob Try.prog.godebug = none := by kernel_rfl
theorem laidOut : laidOutB Try.prog = true := by kernel_rfl

def IsRow (k : IntKind) (w : World) (a : Option Addr) (len cap : Nat) (zs : List Int) : Prop :=
  (a = none ∧ len = 0 ∧ cap = 0 ∧ zs = []) ∨
  ∃ x, a = some x ∧ len ≤ cap ∧ cap ≤ maxLen ∧ zs.length = cap ∧ (∀ i, i < zs.length → w.cell? (x.add i) = some (.int k (zs.getD i 0))) ∧ ∀ n ∈ zs, (Lit.int k n).wf = true



set_option maxHeartbeats 4000000 in
theorem walk (gk0 : Int) (ga0 : Option Addr) (gn0 gc0 : Nat) (gz0 : List Int) (gb0 : Option Addr) (gm0 gd0 : Nat) (gy0 : List Int) (gk1 : Int) (ga1 : Option Addr) (gn1 gc1 : Nat) (gz1 : List Int) (gb1 : Option Addr) (gm1 gd1 : Nat) (gy1 : List Int) (w : World) (w0 : IsGraph w gk0 ga0 gn0 gz0 gb0 gm0 gy0) (w1 : IsGraph w gk1 ga1 gn1 gz1 gb1 gm1 gy1) :
    Calls Try.prog 7 #[.agg #[.int .i64 gk0, .slice ga0 gn0 gc0, .slice gb0 gm0 gd0], .agg #[.int .i64 gk1, .slice ga1 gn1 gc1, .slice gb1 gm1 gd1]] w fun e w' => e = .returned (.bool true) ∧ Below w.heap.size w w' := by
  obtain ⟨hkw0, hA0, hB0, hlA0, hlB0, hwA0, hwB0⟩ := w0
  obtain ⟨hkw1, hA1, hB1, hlA1, hlB1, hwA1, hwB1⟩ := w1
  have HRR : Hid (∀ W : World, Below w.heap.size w W → (RI W ga0 gn0 gz0 ∧ RI W gb0 gm0 gy0) ∧ (RI W ga1 gn1 gz1 ∧ RI W gb1 gm1 gy1)) := fun W hW => ⟨⟨hA0.below hW, hB0.below hW⟩, hA1.below hW, hB1.below hW⟩
  have HZ0 : Hid (∀ W : World, Calls Try.prog 8 #[.agg #[.int .i64 gk0, .slice ga0 gn0 gc0, .slice gb0 gm0 gd0], .int .i64 1048576] W fun e w' => ∃ r : Int, e = .returned (.int .i64 r) ∧ -1 ≤ r ∧ r ≤ 1048576 ∧ (0 ≤ r → (gn0 : Int) ≤ 1048576 ∧ (gm0 : Int) ≤ 1048576) ∧ Below W.heap.size W w') := fun W => szGraph_any gk0 ga0 gb0 gn0 gm0 gc0 gd0 1048576 W (by omega) (by omega) hlA0 hlB0
  have HZ1 : Hid (∀ (left : Int) (W : World), 0 ≤ left → left ≤ 1048576 → Calls Try.prog 8 #[.agg #[.int .i64 gk1, .slice ga1 gn1 gc1, .slice gb1 gm1 gd1], .int .i64 left] W fun e w' => ∃ r : Int, e = .returned (.int .i64 r) ∧ -1 ≤ r ∧ r ≤ left ∧ (0 ≤ r → (gn1 : Int) ≤ left ∧ (gm1 : Int) ≤ left) ∧ Below W.heap.size W w') := fun left W h0 h1 => szGraph_any gk1 ga1 gb1 gn1 gm1 gc1 gd1 left W h0 h1 hlA1 hlB1
  have HB := Lib.hid (Below.refl w.heap.size w)
  clear hkw0 hA0 hB0 hlA0 hlB0 hwA0 hwB0 hkw1 hA1 hB1 hlA1 hlB1 hwA1 hwB1
  have hba : Below w.heap.size w (w.alloc (.cells #[.int .i64 gk0, .slice ga0 gn0 gc0, .slice gb0 gm0 gd0] 24)) := (Below.refl _ _).alloc (Nat.le_refl _) _
  have Kn := Lib.hid (Blk.new w 24 #[.int .i64 gk0, .slice ga0 gn0 gc0, .slice gb0 gm0 gd0])
  have HB := Lib.hid (HB.out.trans (hba.mono HB.out.size))
  clear hba
  have Ka := Kn
  clear Kn
  have hba : Below (w.alloc (.cells #[.int .i64 gk0, .slice ga0 gn0 gc0, .slice gb0 gm0 gd0] 24)).heap.size (w.alloc (.cells #[.int .i64 gk0, .slice ga0 gn0 gc0, .slice gb0 gm0 gd0] 24)) ((w.alloc (.cells #[.int .i64 gk0, .slice ga0 gn0 gc0, .slice gb0 gm0 gd0] 24)).alloc (.cells #[.int .i64 gk1, .slice ga1 gn1 gc1, .slice gb1 gm1 gd1] 24)) := (Below.refl _ _).alloc (Nat.le_refl _) _
  have Kn := Lib.hid (Blk.new (w.alloc (.cells #[.int .i64 gk0, .slice ga0 gn0 gc0, .slice gb0 gm0 gd0] 24)) 24 #[.int .i64 gk1, .slice ga1 gn1 gc1, .slice gb1 gm1 gd1])
  have Ka := Lib.hid (Ka.out.below hba Ka.out.lt)
  have HB := Lib.hid (HB.out.trans (hba.mono HB.out.size))
  clear hba
  have Kb := Kn
  clear Kn
  simp only [World.size_alloc] at Kb
  go_enter Try.func7, Try.ntmps7
  go_wp2_with fail
  refine (HZ0.out _).mono ?_
  rintro e v1 ⟨r0, rfl, hr1, hr2, hr3, hb⟩
  have HS0 := Lib.hid hr3
  clear hr3 HZ0
  have Ka := Lib.hid (Ka.out.below hb Ka.out.lt)
  have Kb := Lib.hid (Kb.out.below hb Kb.out.lt)
  have HB := Lib.hid (HB.out.trans (hb.mono HB.out.size))
  clear hb
  have ca0 : v1.cell? ⟨w.heap.size, 0, none⟩ = some (.int .i64 gk0) := Ka.out.cell 0
  have ca1 : v1.cell? ⟨w.heap.size, 1, none⟩ = some (.slice ga0 gn0 gc0) := Ka.out.cell 1
  have ca2 : v1.cell? ⟨w.heap.size, 2, none⟩ = some (.slice gb0 gm0 gd0) := Ka.out.cell 2
  have la : w.heap.size < v1.heap.size := Ka.out.lt
  have cb0 : v1.cell? ⟨w.heap.size + 1, 0, none⟩ = some (.int .i64 gk1) := Kb.out.cell 0
  have cb1 : v1.cell? ⟨w.heap.size + 1, 1, none⟩ = some (.slice ga1 gn1 gc1) := Kb.out.cell 1
  have cb2 : v1.cell? ⟨w.heap.size + 1, 2, none⟩ = some (.slice gb1 gm1 gd1) := Kb.out.cell 2
  have lb : w.heap.size + 1 < v1.heap.size := Kb.out.lt
  by_cases hneg : r0 < 0
  · go_wp2
    go_ret
    exact ⟨rfl, HB.out⟩
  obtain ⟨hs1, hs2⟩ := HS0.out (by omega)
  have hn0 : gn0 ≤ 1048576 := by omega
  have hm0 : gm0 ≤ 1048576 := by omega
  clear hs1 hs2 HS0
  go_wp2_with fail
  refine (HZ1.out r0 _ (by omega) hr2).mono ?_
  rintro e v2 ⟨r1, rfl, hq1, hq2, hq3, hb⟩
  have HS1 := Lib.hid hq3
  clear hq3 HZ1
  clear ca0 ca1 ca2 la cb0 cb1 cb2 lb
  have Ka := Lib.hid (Ka.out.below hb Ka.out.lt)
  have Kb := Lib.hid (Kb.out.below hb Kb.out.lt)
  have HB := Lib.hid (HB.out.trans (hb.mono HB.out.size))
  clear hb
  have ca0 : v2.cell? ⟨w.heap.size, 0, none⟩ = some (.int .i64 gk0) := Ka.out.cell 0
  have ca1 : v2.cell? ⟨w.heap.size, 1, none⟩ = some (.slice ga0 gn0 gc0) := Ka.out.cell 1
  have ca2 : v2.cell? ⟨w.heap.size, 2, none⟩ = some (.slice gb0 gm0 gd0) := Ka.out.cell 2
  have la : w.heap.size < v2.heap.size := Ka.out.lt
  have cb0 : v2.cell? ⟨w.heap.size + 1, 0, none⟩ = some (.int .i64 gk1) := Kb.out.cell 0
  have cb1 : v2.cell? ⟨w.heap.size + 1, 1, none⟩ = some (.slice ga1 gn1 gc1) := Kb.out.cell 1
  have cb2 : v2.cell? ⟨w.heap.size + 1, 2, none⟩ = some (.slice gb1 gm1 gd1) := Kb.out.cell 2
  have lb : w.heap.size + 1 < v2.heap.size := Kb.out.lt
  by_cases hneg1 : r1 < 0
  · go_wp2
    go_ret
    exact ⟨rfl, HB.out⟩
  obtain ⟨hs1, hs2⟩ := HS1.out (by omega)
  have hn1 : gn1 ≤ 1048576 := by omega
  have hm1 : gm1 ≤ 1048576 := by omega
  clear hs1 hs2 HS1 hq1 hq2 hr1 hr2
  have HTO0 : Hid (∀ W : World, Below w.heap.size w W → Calls Try.prog 10 #[.agg #[.int .i64 gk0, .slice ga0 gn0 gc0, .slice gb0 gm0 gd0]] W fun e w' => ∃ A B : Addr, e = .returned (.agg #[.int .i64 gk0, .slice (some A) gn0 gn0, .slice (some B) gm0 gm0]) ∧ RI w' (some A) gn0 gz0 ∧ RI w' (some B) gm0 gy0 ∧ Below W.heap.size W w') := fun W hW => by
    refine (toGraph_any gk0 ga0 gb0 gn0 gm0 gc0 gd0 gz0 gy0 W (HRR.out W hW).1.1 (HRR.out W hW).1.2 hn0 hm0).mono ?_
    rintro e w' ⟨A, B, h1, h2, h3, _, h5⟩
    exact ⟨A, B, h1, RI.of_own h2, RI.of_own h3, h5⟩
  have HTO1 : Hid (∀ W : World, Below w.heap.size w W → Calls Try.prog 10 #[.agg #[.int .i64 gk1, .slice ga1 gn1 gc1, .slice gb1 gm1 gd1]] W fun e w' => ∃ A B : Addr, e = .returned (.agg #[.int .i64 gk1, .slice (some A) gn1 gn1, .slice (some B) gm1 gm1]) ∧ RI w' (some A) gn1 gz1 ∧ RI w' (some B) gm1 gy1 ∧ Below W.heap.size W w') := fun W hW => by
    refine (toGraph_any gk1 ga1 gb1 gn1 gm1 gc1 gd1 gz1 gy1 W (HRR.out W hW).2.1 (HRR.out W hW).2.2 hn1 hm1).mono ?_
    rintro e w' ⟨A, B, h1, h2, h3, _, h5⟩
    exact ⟨A, B, h1, RI.of_own h2, RI.of_own h3, h5⟩
  have HCK : Hid (∀ w' : World, Below v2.heap.size v2 w' → w'.cell? ⟨w.heap.size, 0, none⟩ = some (.int .i64 gk0) ∧ w'.cell? ⟨w.heap.size, 1, none⟩ = some (.slice ga0 gn0 gc0) ∧ w'.cell? ⟨w.heap.size, 2, none⟩ = some (.slice gb0 gm0 gd0) ∧ w'.cell? ⟨w.heap.size + 1, 0, none⟩ = some (.int .i64 gk1) ∧ w'.cell? ⟨w.heap.size + 1, 1, none⟩ = some (.slice ga1 gn1 gc1) ∧ w'.cell? ⟨w.heap.size + 1, 2, none⟩ = some (.slice gb1 gm1 gd1)) := fun w' hW => ⟨(Ka.out.below hW Ka.out.lt).cell 0, (Ka.out.below hW Ka.out.lt).cell 1, (Ka.out.below hW Ka.out.lt).cell 2, (Kb.out.below hW Kb.out.lt).cell 0, (Kb.out.below hW Kb.out.lt).cell 1, (Kb.out.below hW Kb.out.lt).cell 2⟩
  have HBc : Below v2.heap.size v2 v2.drew := (Below.refl _ _).drew
  have hle : v2.heap.size ≤ v2.heap.size := Nat.le_refl _
  go_wp2_with fail
  go_region_held3 (fun w' => w'.cell? ⟨w.heap.size, 0, none⟩ = some (.int .i64 gk0) ∧ w'.cell? ⟨w.heap.size, 1, none⟩ = some (.slice ga0 gn0 gc0) ∧ w'.cell? ⟨w.heap.size, 2, none⟩ = some (.slice gb0 gm0 gd0) ∧ w'.cell? ⟨w.heap.size + 1, 0, none⟩ = some (.int .i64 gk1) ∧ w'.cell? ⟨w.heap.size + 1, 1, none⟩ = some (.slice ga1 gn1 gc1) ∧ w'.cell? ⟨w.heap.size + 1, 2, none⟩ = some (.slice gb1 gm1 gd1)) (exact HCK.out _ (by first | exact HBc | exact HBc.alloc (by have := HBc.size; omega) _))
    (first
      | (go_at_call_of 10 gk0
         refine (HTO0.out _ (HB.out.trans (HBc.mono HB.out.size))).mono ?_
         rintro e q1 ⟨A1, B1, rfl, ri1, rj1, hb1⟩
         have HBc := bel5 HBc hb1 hle
         clear hb1)
      | (go_at_call_of 10 gk1
         refine (HTO1.out _ (HB.out.trans (HBc.mono HB.out.size))).mono ?_
         rintro e q2 ⟨A2, B2, rfl, ri2, rj2, hb2⟩
         have ri1 := ri1.below hb2
         have rj1 := rj1.below hb2
         have HBc := bel5 HBc hb2 hle
         clear hb2)
      | (go_at_call 21
         refine (specSame_any gk0 gk1 (some A1) (some B1) (some A2) (some B2) gn0 gm0 gn1 gm1 gn0 gm0 gn1 gm1 gz0 gy0 gz1 gy1 _ ri1 rj1 ri2 rj2 hn0 hm0 hn1 hm1).mono ?_
         rintro e v3 ⟨s1, rfl, hs1, hb3⟩
         have HSQ := Lib.hid hs1
         have HBc := bel5 HBc hb3 hle
         clear hb3 hs1))
  clear HCK hle
  clear ri1 rj1 ri2 rj2
  clear ca0 ca1 ca2 la cb0 cb1 cb2 lb
  have Ka := Lib.hid (Ka.out.below HBc Ka.out.lt)
  have Kb := Lib.hid (Kb.out.below HBc Kb.out.lt)
  have HB := Lib.hid (HB.out.trans (HBc.mono HB.out.size))
  clear HBc
  have ca0 : v3.cell? ⟨w.heap.size, 0, none⟩ = some (.int .i64 gk0) := Ka.out.cell 0
  have ca1 : v3.cell? ⟨w.heap.size, 1, none⟩ = some (.slice ga0 gn0 gc0) := Ka.out.cell 1
  have ca2 : v3.cell? ⟨w.heap.size, 2, none⟩ = some (.slice gb0 gm0 gd0) := Ka.out.cell 2
  have la : w.heap.size < v3.heap.size := Ka.out.lt
  have cb0 : v3.cell? ⟨w.heap.size + 1, 0, none⟩ = some (.int .i64 gk1) := Kb.out.cell 0
  have cb1 : v3.cell? ⟨w.heap.size + 1, 1, none⟩ = some (.slice ga1 gn1 gc1) := Kb.out.cell 1
  have cb2 : v3.cell? ⟨w.heap.size + 1, 2, none⟩ = some (.slice gb1 gm1 gd1) := Kb.out.cell 2
  have lb : w.heap.size + 1 < v3.heap.size := Kb.out.lt
  go_wp2_with fail
  refine (HTO0.out _ HB.out).mono ?_
  rintro e v4 ⟨A3, B3, rfl, ri, rj, hb⟩
  have R3 := Lib.hid (And.intro ri rj)
  clear ri rj
  clear ca0 ca1 ca2 la cb0 cb1 cb2 lb
  have Ka := Lib.hid (Ka.out.below hb Ka.out.lt)
  have Kb := Lib.hid (Kb.out.below hb Kb.out.lt)
  have HB := Lib.hid (HB.out.trans (hb.mono HB.out.size))
  clear hb
  have ca0 : v4.cell? ⟨w.heap.size, 0, none⟩ = some (.int .i64 gk0) := Ka.out.cell 0
  have ca1 : v4.cell? ⟨w.heap.size, 1, none⟩ = some (.slice ga0 gn0 gc0) := Ka.out.cell 1
  have ca2 : v4.cell? ⟨w.heap.size, 2, none⟩ = some (.slice gb0 gm0 gd0) := Ka.out.cell 2
  have la : w.heap.size < v4.heap.size := Ka.out.lt
  have cb0 : v4.cell? ⟨w.heap.size + 1, 0, none⟩ = some (.int .i64 gk1) := Kb.out.cell 0
  have cb1 : v4.cell? ⟨w.heap.size + 1, 1, none⟩ = some (.slice ga1 gn1 gc1) := Kb.out.cell 1
  have cb2 : v4.cell? ⟨w.heap.size + 1, 2, none⟩ = some (.slice gb1 gm1 gd1) := Kb.out.cell 2
  have lb : w.heap.size + 1 < v4.heap.size := Kb.out.lt
  have hba : Below v4.heap.size v4 (v4.alloc (.cells #[.int .i64 gk0, .slice (some A3) gn0 gn0, .slice (some B3) gm0 gm0] 27)) := (Below.refl _ _).alloc (Nat.le_refl _) _
  have Kn := Lib.hid (Blk.new v4 27 #[.int .i64 gk0, .slice (some A3) gn0 gn0, .slice (some B3) gm0 gm0])
  have Ka := Lib.hid (Ka.out.below hba Ka.out.lt)
  have Kb := Lib.hid (Kb.out.below hba Kb.out.lt)
  have R3 := Lib.hid (And.intro (R3.out.1.below hba) (R3.out.2.below hba))
  have HB := Lib.hid (HB.out.trans (hba.mono HB.out.size))
  clear hba
  have Kx := Kn
  clear Kn
  go_wp2_with fail
  refine (HTO1.out _ HB.out).mono ?_
  rintro e v5 ⟨A4, B4, rfl, ri, rj, hb⟩
  have R4 := Lib.hid (And.intro ri rj)
  clear ri rj
  clear ca0 ca1 ca2 la cb0 cb1 cb2 lb
  have Ka := Lib.hid (Ka.out.below hb Ka.out.lt)
  have Kb := Lib.hid (Kb.out.below hb Kb.out.lt)
  have Kx := Lib.hid (Kx.out.below hb Kx.out.lt)
  have R3 := Lib.hid (And.intro (R3.out.1.below hb) (R3.out.2.below hb))
  have HB := Lib.hid (HB.out.trans (hb.mono HB.out.size))
  clear hb
  have ca0 : v5.cell? ⟨w.heap.size, 0, none⟩ = some (.int .i64 gk0) := Ka.out.cell 0
  have ca1 : v5.cell? ⟨w.heap.size, 1, none⟩ = some (.slice ga0 gn0 gc0) := Ka.out.cell 1
  have ca2 : v5.cell? ⟨w.heap.size, 2, none⟩ = some (.slice gb0 gm0 gd0) := Ka.out.cell 2
  have la : w.heap.size < v5.heap.size := Ka.out.lt
  have cb0 : v5.cell? ⟨w.heap.size + 1, 0, none⟩ = some (.int .i64 gk1) := Kb.out.cell 0
  have cb1 : v5.cell? ⟨w.heap.size + 1, 1, none⟩ = some (.slice ga1 gn1 gc1) := Kb.out.cell 1
  have cb2 : v5.cell? ⟨w.heap.size + 1, 2, none⟩ = some (.slice gb1 gm1 gd1) := Kb.out.cell 2
  have lb : w.heap.size + 1 < v5.heap.size := Kb.out.lt
  have cx0 : v5.cell? ⟨v4.heap.size, 0, none⟩ = some (.int .i64 gk0) := Kx.out.cell 0
  have cx1 : v5.cell? ⟨v4.heap.size, 1, none⟩ = some (.slice (some A3) gn0 gn0) := Kx.out.cell 1
  have cx2 : v5.cell? ⟨v4.heap.size, 2, none⟩ = some (.slice (some B3) gm0 gm0) := Kx.out.cell 2
  have lx : v4.heap.size < v5.heap.size := Kx.out.lt
  have hba : Below v5.heap.size v5 (v5.alloc (.cells #[.int .i64 gk1, .slice (some A4) gn1 gn1, .slice (some B4) gm1 gm1] 27)) := (Below.refl _ _).alloc (Nat.le_refl _) _
  have Kn := Lib.hid (Blk.new v5 27 #[.int .i64 gk1, .slice (some A4) gn1 gn1, .slice (some B4) gm1 gm1])
  have Ka := Lib.hid (Ka.out.below hba Ka.out.lt)
  have Kb := Lib.hid (Kb.out.below hba Kb.out.lt)
  have Kx := Lib.hid (Kx.out.below hba Kx.out.lt)
  have R3 := Lib.hid (And.intro (R3.out.1.below hba) (R3.out.2.below hba))
  have R4 := Lib.hid (And.intro (R4.out.1.below hba) (R4.out.2.below hba))
  have HB := Lib.hid (HB.out.trans (hba.mono HB.out.size))
  clear hba
  have Ky := Kn
  clear Kn
  go_wp2_with fail
  refine (implSame5_any gk0 gk1 (some A3) (some B3) (some A4) (some B4) gn0 gm0 gn1 gm1 gn0 gm0 gn1 gm1 gz0 gy0 gz1 gy1 _ R3.out.1 R3.out.2 R4.out.1 R4.out.2 hn0 hm0).mono ?_
  rintro e v6 ⟨s2, rfl, hs2, hb⟩
  obtain rfl : s1 = s2 := b2 HSQ.out hs2
  clear hs2 HSQ
  have hbne : (s1 != s1) = false := by simp
  clear ca0 ca1 ca2 la cb0 cb1 cb2 lb cx0 cx1 cx2 lx
  have Ka := Lib.hid (Ka.out.below hb Ka.out.lt)
  have Kb := Lib.hid (Kb.out.below hb Kb.out.lt)
  have Kx := Lib.hid (Kx.out.below hb Kx.out.lt)
  have Ky := Lib.hid (Ky.out.below hb Ky.out.lt)
  have R3 := Lib.hid (And.intro (R3.out.1.below hb) (R3.out.2.below hb))
  have R4 := Lib.hid (And.intro (R4.out.1.below hb) (R4.out.2.below hb))
  have HB := Lib.hid (HB.out.trans (hb.mono HB.out.size))
  clear hb
  have ca0 : v6.cell? ⟨w.heap.size, 0, none⟩ = some (.int .i64 gk0) := Ka.out.cell 0
  have ca1 : v6.cell? ⟨w.heap.size, 1, none⟩ = some (.slice ga0 gn0 gc0) := Ka.out.cell 1
  have ca2 : v6.cell? ⟨w.heap.size, 2, none⟩ = some (.slice gb0 gm0 gd0) := Ka.out.cell 2
  have la : w.heap.size < v6.heap.size := Ka.out.lt
  have cb0 : v6.cell? ⟨w.heap.size + 1, 0, none⟩ = some (.int .i64 gk1) := Kb.out.cell 0
  have cb1 : v6.cell? ⟨w.heap.size + 1, 1, none⟩ = some (.slice ga1 gn1 gc1) := Kb.out.cell 1
  have cb2 : v6.cell? ⟨w.heap.size + 1, 2, none⟩ = some (.slice gb1 gm1 gd1) := Kb.out.cell 2
  have lb : w.heap.size + 1 < v6.heap.size := Kb.out.lt
  have cx0 : v6.cell? ⟨v4.heap.size, 0, none⟩ = some (.int .i64 gk0) := Kx.out.cell 0
  have cx1 : v6.cell? ⟨v4.heap.size, 1, none⟩ = some (.slice (some A3) gn0 gn0) := Kx.out.cell 1
  have cx2 : v6.cell? ⟨v4.heap.size, 2, none⟩ = some (.slice (some B3) gm0 gm0) := Kx.out.cell 2
  have lx : v4.heap.size < v6.heap.size := Kx.out.lt
  have cy0 : v6.cell? ⟨v5.heap.size, 0, none⟩ = some (.int .i64 gk1) := Ky.out.cell 0
  have cy1 : v6.cell? ⟨v5.heap.size, 1, none⟩ = some (.slice (some A4) gn1 gn1) := Ky.out.cell 1
  have cy2 : v6.cell? ⟨v5.heap.size, 2, none⟩ = some (.slice (some B4) gm1 gm1) := Ky.out.cell 2
  have ly : v5.heap.size < v6.heap.size := Ky.out.lt
  have HCK : Hid (∀ w' : World, Below v6.heap.size v6 w' → w'.cell? ⟨w.heap.size, 0, none⟩ = some (.int .i64 gk0) ∧ w'.cell? ⟨w.heap.size, 1, none⟩ = some (.slice ga0 gn0 gc0) ∧ w'.cell? ⟨w.heap.size, 2, none⟩ = some (.slice gb0 gm0 gd0) ∧ w'.cell? ⟨w.heap.size + 1, 0, none⟩ = some (.int .i64 gk1) ∧ w'.cell? ⟨w.heap.size + 1, 1, none⟩ = some (.slice ga1 gn1 gc1) ∧ w'.cell? ⟨w.heap.size + 1, 2, none⟩ = some (.slice gb1 gm1 gd1) ∧ w'.cell? ⟨v4.heap.size, 0, none⟩ = some (.int .i64 gk0) ∧ w'.cell? ⟨v4.heap.size, 1, none⟩ = some (.slice (some A3) gn0 gn0) ∧ w'.cell? ⟨v4.heap.size, 2, none⟩ = some (.slice (some B3) gm0 gm0) ∧ w'.cell? ⟨v5.heap.size, 0, none⟩ = some (.int .i64 gk1) ∧ w'.cell? ⟨v5.heap.size, 1, none⟩ = some (.slice (some A4) gn1 gn1) ∧ w'.cell? ⟨v5.heap.size, 2, none⟩ = some (.slice (some B4) gm1 gm1)) := fun w' hW => ⟨(Ka.out.below hW Ka.out.lt).cell 0, (Ka.out.below hW Ka.out.lt).cell 1, (Ka.out.below hW Ka.out.lt).cell 2, (Kb.out.below hW Kb.out.lt).cell 0, (Kb.out.below hW Kb.out.lt).cell 1, (Kb.out.below hW Kb.out.lt).cell 2, (Kx.out.below hW Kx.out.lt).cell 0, (Kx.out.below hW Kx.out.lt).cell 1, (Kx.out.below hW Kx.out.lt).cell 2, (Ky.out.below hW Ky.out.lt).cell 0, (Ky.out.below hW Ky.out.lt).cell 1, (Ky.out.below hW Ky.out.lt).cell 2⟩
  have HBc : Below v6.heap.size v6 v6.drew := (Below.refl _ _).drew
  have hle : v6.heap.size ≤ v6.heap.size := Nat.le_refl _
  go_wp2_with fail
  go_region_held3 (fun w' => w'.cell? ⟨w.heap.size, 0, none⟩ = some (.int .i64 gk0) ∧ w'.cell? ⟨w.heap.size, 1, none⟩ = some (.slice ga0 gn0 gc0) ∧ w'.cell? ⟨w.heap.size, 2, none⟩ = some (.slice gb0 gm0 gd0) ∧ w'.cell? ⟨w.heap.size + 1, 0, none⟩ = some (.int .i64 gk1) ∧ w'.cell? ⟨w.heap.size + 1, 1, none⟩ = some (.slice ga1 gn1 gc1) ∧ w'.cell? ⟨w.heap.size + 1, 2, none⟩ = some (.slice gb1 gm1 gd1) ∧ w'.cell? ⟨v4.heap.size, 0, none⟩ = some (.int .i64 gk0) ∧ w'.cell? ⟨v4.heap.size, 1, none⟩ = some (.slice (some A3) gn0 gn0) ∧ w'.cell? ⟨v4.heap.size, 2, none⟩ = some (.slice (some B3) gm0 gm0) ∧ w'.cell? ⟨v5.heap.size, 0, none⟩ = some (.int .i64 gk1) ∧ w'.cell? ⟨v5.heap.size, 1, none⟩ = some (.slice (some A4) gn1 gn1) ∧ w'.cell? ⟨v5.heap.size, 2, none⟩ = some (.slice (some B4) gm1 gm1)) (exact HCK.out _ (by first | exact HBc | exact HBc.alloc (by have := HBc.size; omega) _))
    (first
      | (go_at_call 10
         refine (HTO0.out _ (HB.out.trans (HBc.mono HB.out.size))).mono ?_
         rintro e q1 ⟨A9, B9, rfl, ri1, rj1, hb1⟩
         have RR := Lib.hid (And.intro (R3.out.1.below (HBc.trans (hb1.mono HBc.size))) (R3.out.2.below (HBc.trans (hb1.mono HBc.size))))
         have HBc := bel5 HBc hb1 hle
         clear hb1)
      | (go_at_call 12
         refine (eqGraph_any gk0 gk0 (some A3) (some B3) (some A9) (some B9) gn0 gm0 gn0 gm0 gn0 gm0 gn0 gm0 gz0 gy0 gz0 gy0 _ RR.out.1 RR.out.2 ri1 rj1 hn0 hm0).mono ?_
         rw [decide_eq_true (rfl : gk0 = gk0), decide_eq_true (rfl : gz0 = gz0), decide_eq_true (rfl : gy0 = gy0)]
         rintro e v7 ⟨rfl, hb8⟩
         have HBc := bel5 HBc hb8 hle
         clear hb8))
  clear HCK hle
  clear ri1 rj1 RR
  clear ca0 ca1 ca2 la cb0 cb1 cb2 lb cx0 cx1 cx2 lx cy0 cy1 cy2 ly
  have Ka := Lib.hid (Ka.out.below HBc Ka.out.lt)
  have Kb := Lib.hid (Kb.out.below HBc Kb.out.lt)
  have Kx := Lib.hid (Kx.out.below HBc Kx.out.lt)
  have Ky := Lib.hid (Ky.out.below HBc Ky.out.lt)
  have R3 := Lib.hid (And.intro (R3.out.1.below HBc) (R3.out.2.below HBc))
  have R4 := Lib.hid (And.intro (R4.out.1.below HBc) (R4.out.2.below HBc))
  have HB := Lib.hid (HB.out.trans (HBc.mono HB.out.size))
  clear HBc
  have ca0 : v7.cell? ⟨w.heap.size, 0, none⟩ = some (.int .i64 gk0) := Ka.out.cell 0
  have ca1 : v7.cell? ⟨w.heap.size, 1, none⟩ = some (.slice ga0 gn0 gc0) := Ka.out.cell 1
  have ca2 : v7.cell? ⟨w.heap.size, 2, none⟩ = some (.slice gb0 gm0 gd0) := Ka.out.cell 2
  have la : w.heap.size < v7.heap.size := Ka.out.lt
  have cb0 : v7.cell? ⟨w.heap.size + 1, 0, none⟩ = some (.int .i64 gk1) := Kb.out.cell 0
  have cb1 : v7.cell? ⟨w.heap.size + 1, 1, none⟩ = some (.slice ga1 gn1 gc1) := Kb.out.cell 1
  have cb2 : v7.cell? ⟨w.heap.size + 1, 2, none⟩ = some (.slice gb1 gm1 gd1) := Kb.out.cell 2
  have lb : w.heap.size + 1 < v7.heap.size := Kb.out.lt
  have cx0 : v7.cell? ⟨v4.heap.size, 0, none⟩ = some (.int .i64 gk0) := Kx.out.cell 0
  have cx1 : v7.cell? ⟨v4.heap.size, 1, none⟩ = some (.slice (some A3) gn0 gn0) := Kx.out.cell 1
  have cx2 : v7.cell? ⟨v4.heap.size, 2, none⟩ = some (.slice (some B3) gm0 gm0) := Kx.out.cell 2
  have lx : v4.heap.size < v7.heap.size := Kx.out.lt
  have cy0 : v7.cell? ⟨v5.heap.size, 0, none⟩ = some (.int .i64 gk1) := Ky.out.cell 0
  have cy1 : v7.cell? ⟨v5.heap.size, 1, none⟩ = some (.slice (some A4) gn1 gn1) := Ky.out.cell 1
  have cy2 : v7.cell? ⟨v5.heap.size, 2, none⟩ = some (.slice (some B4) gm1 gm1) := Ky.out.cell 2
  have ly : v5.heap.size < v7.heap.size := Ky.out.lt
  have HCK : Hid (∀ w' : World, Below v7.heap.size v7 w' → w'.cell? ⟨w.heap.size, 0, none⟩ = some (.int .i64 gk0) ∧ w'.cell? ⟨w.heap.size, 1, none⟩ = some (.slice ga0 gn0 gc0) ∧ w'.cell? ⟨w.heap.size, 2, none⟩ = some (.slice gb0 gm0 gd0) ∧ w'.cell? ⟨w.heap.size + 1, 0, none⟩ = some (.int .i64 gk1) ∧ w'.cell? ⟨w.heap.size + 1, 1, none⟩ = some (.slice ga1 gn1 gc1) ∧ w'.cell? ⟨w.heap.size + 1, 2, none⟩ = some (.slice gb1 gm1 gd1) ∧ w'.cell? ⟨v4.heap.size, 0, none⟩ = some (.int .i64 gk0) ∧ w'.cell? ⟨v4.heap.size, 1, none⟩ = some (.slice (some A3) gn0 gn0) ∧ w'.cell? ⟨v4.heap.size, 2, none⟩ = some (.slice (some B3) gm0 gm0) ∧ w'.cell? ⟨v5.heap.size, 0, none⟩ = some (.int .i64 gk1) ∧ w'.cell? ⟨v5.heap.size, 1, none⟩ = some (.slice (some A4) gn1 gn1) ∧ w'.cell? ⟨v5.heap.size, 2, none⟩ = some (.slice (some B4) gm1 gm1)) := fun w' hW => ⟨(Ka.out.below hW Ka.out.lt).cell 0, (Ka.out.below hW Ka.out.lt).cell 1, (Ka.out.below hW Ka.out.lt).cell 2, (Kb.out.below hW Kb.out.lt).cell 0, (Kb.out.below hW Kb.out.lt).cell 1, (Kb.out.below hW Kb.out.lt).cell 2, (Kx.out.below hW Kx.out.lt).cell 0, (Kx.out.below hW Kx.out.lt).cell 1, (Kx.out.below hW Kx.out.lt).cell 2, (Ky.out.below hW Ky.out.lt).cell 0, (Ky.out.below hW Ky.out.lt).cell 1, (Ky.out.below hW Ky.out.lt).cell 2⟩
  have HBc : Below v7.heap.size v7 v7.drew := (Below.refl _ _).drew
  have hle : v7.heap.size ≤ v7.heap.size := Nat.le_refl _
  go_wp2_with fail
  go_region_held3 (fun w' => w'.cell? ⟨w.heap.size, 0, none⟩ = some (.int .i64 gk0) ∧ w'.cell? ⟨w.heap.size, 1, none⟩ = some (.slice ga0 gn0 gc0) ∧ w'.cell? ⟨w.heap.size, 2, none⟩ = some (.slice gb0 gm0 gd0) ∧ w'.cell? ⟨w.heap.size + 1, 0, none⟩ = some (.int .i64 gk1) ∧ w'.cell? ⟨w.heap.size + 1, 1, none⟩ = some (.slice ga1 gn1 gc1) ∧ w'.cell? ⟨w.heap.size + 1, 2, none⟩ = some (.slice gb1 gm1 gd1) ∧ w'.cell? ⟨v4.heap.size, 0, none⟩ = some (.int .i64 gk0) ∧ w'.cell? ⟨v4.heap.size, 1, none⟩ = some (.slice (some A3) gn0 gn0) ∧ w'.cell? ⟨v4.heap.size, 2, none⟩ = some (.slice (some B3) gm0 gm0) ∧ w'.cell? ⟨v5.heap.size, 0, none⟩ = some (.int .i64 gk1) ∧ w'.cell? ⟨v5.heap.size, 1, none⟩ = some (.slice (some A4) gn1 gn1) ∧ w'.cell? ⟨v5.heap.size, 2, none⟩ = some (.slice (some B4) gm1 gm1)) (exact HCK.out _ (by first | exact HBc | exact HBc.alloc (by have := HBc.size; omega) _))
    (first
      | (go_at_call 10
         refine (HTO1.out _ (HB.out.trans (HBc.mono HB.out.size))).mono ?_
         rintro e q1 ⟨A9, B9, rfl, ri1, rj1, hb1⟩
         have RR := Lib.hid (And.intro (R4.out.1.below (HBc.trans (hb1.mono HBc.size))) (R4.out.2.below (HBc.trans (hb1.mono HBc.size))))
         have HBc := bel5 HBc hb1 hle
         clear hb1)
      | (go_at_call 12
         refine (eqGraph_any gk1 gk1 (some A4) (some B4) (some A9) (some B9) gn1 gm1 gn1 gm1 gn1 gm1 gn1 gm1 gz1 gy1 gz1 gy1 _ RR.out.1 RR.out.2 ri1 rj1 hn1 hm1).mono ?_
         rw [decide_eq_true (rfl : gk1 = gk1), decide_eq_true (rfl : gz1 = gz1), decide_eq_true (rfl : gy1 = gy1)]
         rintro e v8 ⟨rfl, hb8⟩
         have HBc := bel5 HBc hb8 hle
         clear hb8))
  clear HCK hle
  clear ri1 rj1 RR
  clear ca0 ca1 ca2 la cb0 cb1 cb2 lb cx0 cx1 cx2 lx cy0 cy1 cy2 ly
  have Ka := Lib.hid (Ka.out.below HBc Ka.out.lt)
  have Kb := Lib.hid (Kb.out.below HBc Kb.out.lt)
  have Kx := Lib.hid (Kx.out.below HBc Kx.out.lt)
  have Ky := Lib.hid (Ky.out.below HBc Ky.out.lt)
  have R3 := Lib.hid (And.intro (R3.out.1.below HBc) (R3.out.2.below HBc))
  have R4 := Lib.hid (And.intro (R4.out.1.below HBc) (R4.out.2.below HBc))
  have HB := Lib.hid (HB.out.trans (HBc.mono HB.out.size))
  clear HBc
  have ca0 : v8.cell? ⟨w.heap.size, 0, none⟩ = some (.int .i64 gk0) := Ka.out.cell 0
  have ca1 : v8.cell? ⟨w.heap.size, 1, none⟩ = some (.slice ga0 gn0 gc0) := Ka.out.cell 1
  have ca2 : v8.cell? ⟨w.heap.size, 2, none⟩ = some (.slice gb0 gm0 gd0) := Ka.out.cell 2
  have la : w.heap.size < v8.heap.size := Ka.out.lt
  have cb0 : v8.cell? ⟨w.heap.size + 1, 0, none⟩ = some (.int .i64 gk1) := Kb.out.cell 0
  have cb1 : v8.cell? ⟨w.heap.size + 1, 1, none⟩ = some (.slice ga1 gn1 gc1) := Kb.out.cell 1
  have cb2 : v8.cell? ⟨w.heap.size + 1, 2, none⟩ = some (.slice gb1 gm1 gd1) := Kb.out.cell 2
  have lb : w.heap.size + 1 < v8.heap.size := Kb.out.lt
  have cx0 : v8.cell? ⟨v4.heap.size, 0, none⟩ = some (.int .i64 gk0) := Kx.out.cell 0
  have cx1 : v8.cell? ⟨v4.heap.size, 1, none⟩ = some (.slice (some A3) gn0 gn0) := Kx.out.cell 1
  have cx2 : v8.cell? ⟨v4.heap.size, 2, none⟩ = some (.slice (some B3) gm0 gm0) := Kx.out.cell 2
  have lx : v4.heap.size < v8.heap.size := Kx.out.lt
  have cy0 : v8.cell? ⟨v5.heap.size, 0, none⟩ = some (.int .i64 gk1) := Ky.out.cell 0
  have cy1 : v8.cell? ⟨v5.heap.size, 1, none⟩ = some (.slice (some A4) gn1 gn1) := Ky.out.cell 1
  have cy2 : v8.cell? ⟨v5.heap.size, 2, none⟩ = some (.slice (some B4) gm1 gm1) := Ky.out.cell 2
  have ly : v5.heap.size < v8.heap.size := Ky.out.lt
  go_wp2
  go_ret
  exact ⟨rfl, HB.out⟩

/-! ### THE ROW's STEP -/
set_option maxRecDepth 100000 in
theorem lifted (os : Os) (started : os.Started) (H : Type) (enc : TypeId × Value → H) :
    ReturnsInHanded {} Try.checked os 7 .any (Rows.fnExactGraphSameSpec.pre6 enc Try.prog Try.f7 Rows.fnExactGraphSameRow.domain false) (Rows.fnExactGraphSameSpec.post enc Try.prog Try.f7 false true false false) := by
  refine returnsInHanded_of_change (C := Try.checked) own started (by kernel_rfl) Try.func7
    (ChangeSpec.witness6 (enc := enc) (C := Try.checked) false ⟨#[], #[.agg #[.int .i64 0, .slice none 0 0, .slice none 0 0], .agg #[.int .i64 0, .slice none 0 0, .slice none 0 0]], []⟩ 8 (by kernel_rfl) (by kernel_rfl) (by kernel_rfl) (by kernel_rfl)) ?_
  intro W base args ds gs before hval0 hW hcnd _
  have hval : ∀ (j : Nat) t v, Try.f7.params[j]? = some t → args[j]? = some v → Value.okWide Try.prog W .any base t v := hval0
  have hW' := hW
  obtain ⟨p, q, hA0, hV, rfl, hfz, hnd⟩ := hW
  have hA : DataW.TrodAll enc Try.prog W 0 (fun _ => true) true Try.f7.params.toList args.toList ds p := hA0
  rw [Try.params7] at hA hval
  obtain ⟨v0, vs0, d0, ds0, p0, q0, hargs, rfl, rfl, h0, r0⟩ := trodAll_cons hA
  obtain ⟨v1, vs1, d1, ds1, p1, q1, rfl, rfl, rfl, h1, r1⟩ := trodAll_cons r0
  obtain ⟨rfl, rfl, rfl⟩ := trodAll_nil r1
  obtain rfl : args = #[v0, v1] := by cases args; simp_all
  obtain ⟨rfl, rfl⟩ := trodVars_none hV
  have k0 := h0
  have lt0 : ∀ x ∈ p0, x.block < W.heap.size := by obtain ⟨m, hm⟩ := k0; exact DataW.trod_lt m _ _ _ hm
  obtain ⟨xx0, yy0, zz0, u0, t0, s0, n0, rfl, rfl, rfl, g0, l0, b0⟩ := Go.Joins.open_agg3 Try.underlying24 (by kernel_rfl) (by kernel_rfl) (hval 0 24 v0 rfl rfl) h0
  obtain ⟨gk0, e0, f0⟩ := open_int0 Try.underlying3 g0
  obtain ⟨ga0, gn0, gc0, gz0, ee0, ra0, la0, wa0⟩ := open_ints0 Try.underlying22 Try.underlying3 (by kernel_rfl) l0
  obtain ⟨gb0, gm0, gd0, gy0, eee0, rb0, lb0, wb0⟩ := open_ints0 Try.underlying22 Try.underlying3 (by kernel_rfl) b0
  subst e0 ee0 eee0
  have w0 : IsGraph W gk0 ga0 gn0 gz0 gb0 gm0 gy0 := ⟨f0, ra0, rb0, la0, lb0, wa0, wb0⟩
  have k1 := h1
  have lt1 : ∀ x ∈ p1, x.block < W.heap.size := by obtain ⟨m, hm⟩ := k1; exact DataW.trod_lt m _ _ _ hm
  obtain ⟨xx1, yy1, zz1, u1, t1, s1, n1, rfl, rfl, rfl, g1, l1, b1⟩ := Go.Joins.open_agg3 Try.underlying24 (by kernel_rfl) (by kernel_rfl) (hval 1 24 v1 rfl rfl) h1
  obtain ⟨gk1, e1, f1⟩ := open_int0 Try.underlying3 g1
  obtain ⟨ga1, gn1, gc1, gz1, ee1, ra1, la1, wa1⟩ := open_ints0 Try.underlying22 Try.underlying3 (by kernel_rfl) l1
  obtain ⟨gb1, gm1, gd1, gy1, eee1, rb1, lb1, wb1⟩ := open_ints0 Try.underlying22 Try.underlying3 (by kernel_rfl) b1
  subst e1 ee1 eee1
  have w1 : IsGraph W gk1 ga1 gn1 gz1 gb1 gm1 gy1 := ⟨f1, ra1, rb1, la1, lb1, wa1, wb1⟩
  clear hA0 hval0
  refine (walk gk0 ga0 gn0 gc0 gz0 gb0 gm0 gd0 gy0 gk1 ga1 gn1 gc1 gz1 gb1 gm1 gd1 gy1 W w0 w1).mono fun e W' ⟨he, bel⟩ => ?_
  subst he
  exact ⟨_, rfl, _, _, _, [], _, [], hW', trodAll_mk1 (shut_bool Try.underlying4 _), (trodAll_cons_mk (Below.trod laidOut (by kernel_rfl) (of_decide_eq_true (by kernel_rfl)) k0 bel lt0) (trodAll_cons_mk (Below.trod laidOut (by kernel_rfl) (of_decide_eq_true (by kernel_rfl)) k1 bel lt1) trodAll_mk0)), rfl, bel.frame _, fun h => by cases h⟩

theorem over : Rows.fnExactGraphSameRow.holds Try.pinned (OpenSpec.ofChange Rows.fnExactGraphSameSpec) :=
  OpenClaim.holds_of_wide 7 Try.f7 rfl rfl rfl rfl rfl rfl rfl ⟨rfl, rfl, rfl, rfl, rfl⟩ rfl rfl rfl rfl rfl (by kernel_rfl) Try.func7 (by kernel_rfl)
    (of_decide_eq_true (by kernel_rfl)) (by unfold Func.isWrapper; first | (rw [if_pos (by decide +kernel)]; kernel_rfl) | (rw [if_neg (by decide +kernel)]; exact ⟨rfl, rfl⟩))
    (fun os started H enc _ => lifted os started H enc)

theorem proved : Rows.FnExactGraphSameSaid := over
#print axioms proved
end Go.Proofs.Ythliifgjolgmgaa.fnExactGraphSame
