/-
  FnTreeOf: for every input the law returns true and leaves its arguments as they were. No condition.
-/
import Derived.Test.YtlfbocmcbkcfhaaDoorRows
import Derived.Test.YtlfbocmcbkcfhaaDoorCards
import Derived.Test.YtlfbocmcbkcfhaaDoorTie
import Derived.Test.YtlfbocmcbkcfhaaDoorUW
import Derived.Test.YtlfbocmcbkcfhaaDoorUT
import Derived.Test.YtlfbocmcbkcfhaaDoorUJ
import Derived.Test.YtlfbocmcbkcfhaaDoorUK
import Derived.Test.YtlfbocmcbkcfhaaDoorUS
import Derived.Test.YtlfbocmcbkcfhaaDoorTQ
import Derived.WalkKit
import Derived.Deep.QuietTactic
import Derived.BigQuiet
import Derived.Outline
import Derived.ProofKit
import Derived.OpenShut
import Derived.ShutString
import Derived.ChangeOld
import Derived.Below
import Derived.ChangeSame
import Derived.ChangeVars
import Derived.JoinedOf
import Derived.RowKit
import Derived.RowKitTokens
import Derived.LaidLaws
import Derived.LaidHandle
import Derived.Stop.Joined
import Derived.SevenTiedAt
import Derived.Lay
namespace Go.Proofs.YtlfbocmcbkcfhaaDoor.fnTreeOf
set_option maxRecDepth 100000
open Go.ChangeShapes Go.WideShapes Go.ChangeAt Go.RowKit
open Go.ChangeMaps (open_string shut_string)
set_option linter.unusedVariables false

theorem own : ownKnob Tryd.prog.godebug = none := by kernel_rfl
theorem laidOut : laidOutB Tryd.prog = true := by kernel_rfl

def IsRow (k : IntKind) (w : World) (a : Option Addr) (len cap : Nat) (zs : List Int) : Prop :=
  (a = none ∧ len = 0 ∧ cap = 0 ∧ zs = []) ∨
  ∃ x, a = some x ∧ len ≤ cap ∧ cap ≤ maxLen ∧ zs.length = cap ∧ (∀ i, i < zs.length → w.cell? (x.add i) = some (.int k (zs.getD i 0))) ∧ ∀ n ∈ zs, (Lit.int k n).wf = true

theorem src_of {w : World} {a : Option Addr} {len cap : Nat} {zs : List Int} (h : IsRow .u8 w a len cap zs) : ∃ bs : Nat → Nat, Src w w.heap.size a len bs ∧ len ≤ cap := by
  rcases h with ⟨rfl, rfl, rfl, rfl⟩ | ⟨x, rfl, hlc, _, hz, hc, hw⟩
  · exact ⟨fun _ => 0, ⟨fun _ => (by decide : (0 : Nat) < 256), fun j hj => absurd hj (by omega)⟩, Nat.le_refl _⟩
  · have hr : ∀ j, 0 ≤ zs.getD j 0 ∧ zs.getD j 0 < 256 := fun j => by
      rcases Nat.lt_or_ge j zs.length with h | h
      · have := hw zs[j] (List.getElem_mem h)
        rw [List.getD_eq_getElem?_getD, List.getElem?_eq_getElem h]
        simp [Lit.wf] at this
        have h0 : IntKind.u8.min = 0 := by decide
        have h1 : IntKind.u8.max = 255 := by decide
        rw [h0, h1] at this
        simp
        omega
      · rw [List.getD_eq_getElem?_getD, List.getElem?_eq_none h]; simp
    refine ⟨fun j => (zs.getD j 0).toNat, ⟨fun j => by have := hr j; show (zs.getD j 0).toNat < 256; omega, fun j hj => ⟨x, rfl, ?_, ?_⟩⟩, hlc⟩
    · have := block_lt_of_cell (hc 0 (by omega)); rwa [block_of_add] at this
    · rw [hc j (by omega), Int.toNat_of_nonneg (hr j).1]

set_option maxHeartbeats 3000000 in
theorem walk (a0 : Option Addr) (len0 cap0 : Nat) (z0 : List Int) (w : World) (het : True) (w0 : IsRow .u8 w a0 len0 cap0 z0) :
    Calls Tryd.prog 4 #[.slice a0 len0 cap0] w fun e w' => e = .returned (.bool true) ∧ Below w.heap.size w w' := by
  have HET := Lib.hid het
  clear het

  obtain ⟨bs, hS, hlc⟩ := src_of w0
  clear w0
  by_cases hbig : 1048576 < len0
  · go_enter Tryd.func4, Tryd.ntmps4
    go_wp2
    go_ret
    exact ⟨rfl, Below.refl _ _⟩
  go_enter Tryd.func4, Tryd.ntmps4
  go_wp2_with fail
  refine (drawOf_any _ _ _ _ _ hS hlc (by omega)).mono ?_
  rintro e w1 ⟨a0, rfl, hs0, hbel⟩
  have HB := Lib.hid hbel
  have hs : a0.size ≤ 1048576 := by omega
  clear hS hbel hbig hs0
  have HC := Lib.hid (implOfT_any a0 hs w1)
  go_wp2_with fail
  refine HC.out.mono ?_
  rintro e w2 ⟨R, hk, hb, Ao, no, co, rfl, ho⟩
  have HB := Lib.hid (HB.out.trans (hb.mono HB.out.size))
  have HKo := Lib.hid hk
  have HRo := Lib.hid ho
  have HZo := Lib.hid hk.szs
  have hno : no ≤ 60 := HZo.out.n HRo.out
  clear hb ho HC hk
  have HRo := Lib.hid (HRo.out.alloc (.cells #[.slice Ao no co, .string (resE R)] 25))
  have KBbo := Lib.hid (Blk.new w2 25 #[.slice Ao no co, .string (resE R)])
  have HB := Lib.hid (HB.out.alloc HB.out.size (.cells #[.slice Ao no co, .string (resE R)] 25))
  have HC := Lib.hid (specOfT_any a0 hs ((w2.alloc (.cells #[.slice Ao no co, .string (resE R)] 25))))
  go_wp2_with fail
  refine HC.out.mono ?_
  rintro e w3 ⟨R', hk, hb, Aw, nw, cw, rfl, ho⟩
  obtain rfl := HKo.out.same hk
  have KBbo := Lib.hid (KBbo.out.below hb KBbo.out.lt)
  have HRo := Lib.hid (own_below0 HRo.out hb)
  have HB := Lib.hid (HB.out.trans (hb.mono HB.out.size))
  have HRw := Lib.hid ho
  have HZw := Lib.hid hk.szs
  have hnw : nw ≤ 60 := HZw.out.n HRw.out
  clear hb ho HC hk
  have KLbo : Hid (w2.heap.size < w3.heap.size) := KBbo.out.lt
  have KBbo := Lib.hid (KBbo.out.alloc (.cells #[.slice Aw nw cw, .string (resE R)] 25))
  have HRo := Lib.hid (HRo.out.alloc (.cells #[.slice Aw nw cw, .string (resE R)] 25))
  have HRw := Lib.hid (HRw.out.alloc (.cells #[.slice Aw nw cw, .string (resE R)] 25))
  have KBbw := Lib.hid (Blk.new w3 25 #[.slice Aw nw cw, .string (resE R)])
  have HB := Lib.hid (HB.out.alloc HB.out.size (.cells #[.slice Aw nw cw, .string (resE R)] 25))
  have hbb : (R.isSome != R.isSome) = false := by simp
  have hbe : (R.isSome == R.isSome) = true := by simp
  have hsm : resL R = resL R ∧ resE R = resE R := ⟨rfl, rfl⟩
  have hsd : (decide (resL R = resL R) && decide (resE R = resE R)) = true := by rw [decide_eq_true hsm.1, decide_eq_true hsm.2]; rfl
  have hc := sameTree2_any Ao Aw no nw co cw (resL R) (resL R) (resE R) (resE R) ((w3.alloc (.cells #[.slice Aw nw cw, .string (resE R)] 25))) (RS.of_own HRo.out) (RS.of_own HRw.out) (by omega)
  rw [hsd] at hc
  have HC := Lib.hid hc
  clear hc hsd hsm
  have kbo0 : w3.cell? ⟨w2.heap.size, 0, none⟩ = some (.slice Ao no co) := by have := KBbo.out.cell 0; rwa [World.cell?_alloc_lt _ _ _ (KLbo.out)] at this
  have kbo1 : w3.cell? ⟨w2.heap.size, 1, none⟩ = some (.string (resE R)) := by have := KBbo.out.cell 1; rwa [World.cell?_alloc_lt _ _ _ (KLbo.out)] at this
  have kbol : w2.heap.size < w3.heap.size := KLbo.out
  go_wp2_with fail
  refine HC.out.mono ?_
  rintro e w4 ⟨rfl, hb⟩
  clear kbo0 kbo1 kbol
  have KBbo := Lib.hid (KBbo.out.below hb KBbo.out.lt)
  have KBbw := Lib.hid (KBbw.out.below hb KBbw.out.lt)
  have HRo := Lib.hid (own_below0 HRo.out hb)
  have HRw := Lib.hid (own_below0 HRw.out hb)
  have HB := Lib.hid (HB.out.trans (hb.mono HB.out.size))
  clear hb HC
  cases s0 : R.isSome with
  | false =>
    rw [s0] at hbb hbe
    have hsm : resL R = resL R ∧ resE R = resE R := ⟨rfl, rfl⟩
    have hsd : (decide (resL R = resL R) && decide (resE R = resE R)) = true := by rw [decide_eq_true hsm.1, decide_eq_true hsm.2]; rfl
    have hc := sameTree2_any Ao Aw no nw co cw (resL R) (resL R) (resE R) (resE R) w4 (RS.of_own HRo.out) (RS.of_own HRw.out) (by omega)
    rw [hsd] at hc
    have HC := Lib.hid hc
    clear hc hsd hsm
    have kbo0 : w4.cell? ⟨w2.heap.size, 0, none⟩ = some (.slice Ao no co) := KBbo.out.cell 0
    have kbo1 : w4.cell? ⟨w2.heap.size, 1, none⟩ = some (.string (resE R)) := KBbo.out.cell 1
    have kbol : w2.heap.size < w4.heap.size := KBbo.out.lt
    have kbw0 : w4.cell? ⟨w3.heap.size, 0, none⟩ = some (.slice Aw nw cw) := KBbw.out.cell 0
    have kbw1 : w4.cell? ⟨w3.heap.size, 1, none⟩ = some (.string (resE R)) := KBbw.out.cell 1
    have kbwl : w3.heap.size < w4.heap.size := KBbw.out.lt
    go_wp2_with fail
    refine HC.out.mono ?_
    rintro e w5 ⟨rfl, hb⟩
    clear kbo0 kbo1 kbol kbw0 kbw1 kbwl
    have KBbo := Lib.hid (KBbo.out.below hb KBbo.out.lt)
    have KBbw := Lib.hid (KBbw.out.below hb KBbw.out.lt)
    have HRo := Lib.hid (own_below0 HRo.out hb)
    have HRw := Lib.hid (own_below0 HRw.out hb)
    have HB := Lib.hid (HB.out.trans (hb.mono HB.out.size))
    clear hb HC
    go_wp2
    go_ret
    exact ⟨rfl, HB.out⟩
  | true =>
    rw [s0] at hbb hbe
    obtain ⟨ws, hx, hl⟩ : ∃ ws, a0 = txt ws ∧ ws.length ≤ 24 := by
      obtain ⟨ws, S, hx, hl, _⟩ := of_tin HKo.out s0
      exact ⟨ws, hx, hl⟩
    subst hx
    have HKo := Lib.hid HKo.out
    have HINV : Hid (∀ W : World, Calls Tryd.prog 23 #[.string (txt ws)] W fun e w' => e = .returned (.string (txt (invW ws))) ∧ RowKit.Below W.heap.size W w') := fun W => by
      have h := lawInv_any ws (by omega) W
      rwa [show ws.reverse.map ivL = invW ws by unfold invW; rw [List.map_reverse]] at h
    have HRED : Hid (∀ W : World, Calls Tryd.prog 22 #[.string (txt ws)] W fun e w' => e = .returned (.tuple #[.string (strOf (redS ws)), .bool true]) ∧ RowKit.Below W.heap.size W w') := fun W => implReduced_yes ws hl W
    have HOFL : Hid (∀ R1 R2 : TR, TurnOk (resL R) (resE R) R1 → OfOk (txt (invW ws)) R2 → R.isSome = true ∧ R1.isSome = true ∧ R2.isSome = true ∧ resE R = strOf (redS ws) ∧ (resL R).length ≤ (txt ws).size + 1 ∧ resL R1 = resL R2 ∧ resE R1 = resE R2) := fun R1 R2 h1 h2 => by
      have := of_law hl HKo.out h1 h2
      rwa [show (txt ws).size = ws.length by unfold txt; simp [ByteArray.size]]
    have hzi : (txt (invW ws)).size ≤ 1048576 := by rw [show (txt (invW ws)).size = (invW ws).length by unfold txt; simp [ByteArray.size], invW_length]; omega
    generalize txt (invW ws) = ti at *
    generalize strOf (redS ws) = tr at *
    generalize txt ws = tw at *
    have HC := Lib.hid (HRED.out w4)
    have kbo0 : w4.cell? ⟨w2.heap.size, 0, none⟩ = some (.slice Ao no co) := KBbo.out.cell 0
    have kbo1 : w4.cell? ⟨w2.heap.size, 1, none⟩ = some (.string (resE R)) := KBbo.out.cell 1
    have kbol : w2.heap.size < w4.heap.size := KBbo.out.lt
    have kbw0 : w4.cell? ⟨w3.heap.size, 0, none⟩ = some (.slice Aw nw cw) := KBbw.out.cell 0
    have kbw1 : w4.cell? ⟨w3.heap.size, 1, none⟩ = some (.string (resE R)) := KBbw.out.cell 1
    have kbwl : w3.heap.size < w4.heap.size := KBbw.out.lt
    go_wp2_with fail
    refine HC.out.mono ?_
    rintro e w5 ⟨rfl, hb⟩
    clear kbo0 kbo1 kbol kbw0 kbw1 kbwl
    have KBbo := Lib.hid (KBbo.out.below hb KBbo.out.lt)
    have KBbw := Lib.hid (KBbw.out.below hb KBbw.out.lt)
    have HRo := Lib.hid (own_below0 HRo.out hb)
    have HRw := Lib.hid (own_below0 HRw.out hb)
    have HB := Lib.hid (HB.out.trans (hb.mono HB.out.size))
    clear hb HC
    have HC := Lib.hid (implTurned_any Ao no co (resL R) (resE R) w5 (RS.of_own HRo.out) (by omega) HZo.out.big.1 HZo.out.big.2)
    have kbo0 : w5.cell? ⟨w2.heap.size, 0, none⟩ = some (.slice Ao no co) := KBbo.out.cell 0
    have kbo1 : w5.cell? ⟨w2.heap.size, 1, none⟩ = some (.string (resE R)) := KBbo.out.cell 1
    have kbol : w2.heap.size < w5.heap.size := KBbo.out.lt
    have kbw0 : w5.cell? ⟨w3.heap.size, 0, none⟩ = some (.slice Aw nw cw) := KBbw.out.cell 0
    have kbw1 : w5.cell? ⟨w3.heap.size, 1, none⟩ = some (.string (resE R)) := KBbw.out.cell 1
    have kbwl : w3.heap.size < w5.heap.size := KBbw.out.lt
    go_wp2_with fail
    refine HC.out.mono ?_
    rintro e w6 ⟨R1, hk, hb, Au, nu, cu, rfl, ho⟩
    clear kbo0 kbo1 kbol kbw0 kbw1 kbwl
    have KBbo := Lib.hid (KBbo.out.below hb KBbo.out.lt)
    have KBbw := Lib.hid (KBbw.out.below hb KBbw.out.lt)
    have HRo := Lib.hid (own_below0 HRo.out hb)
    have HRw := Lib.hid (own_below0 HRw.out hb)
    have HB := Lib.hid (HB.out.trans (hb.mono HB.out.size))
    have HKu := Lib.hid hk
    have HRu := Lib.hid ho
    have HZu := Lib.hid hk.szs
    have hnu : nu ≤ 60 := HZu.out.n HRu.out
    clear hb ho HC hk
    have KLbo : Hid (w2.heap.size < w6.heap.size) := KBbo.out.lt
    have KLbw : Hid (w3.heap.size < w6.heap.size) := KBbw.out.lt
    have KBbo := Lib.hid (KBbo.out.alloc (.cells #[.slice Au nu cu, .string (resE R1)] 25))
    have KBbw := Lib.hid (KBbw.out.alloc (.cells #[.slice Au nu cu, .string (resE R1)] 25))
    have HRo := Lib.hid (HRo.out.alloc (.cells #[.slice Au nu cu, .string (resE R1)] 25))
    have HRw := Lib.hid (HRw.out.alloc (.cells #[.slice Au nu cu, .string (resE R1)] 25))
    have HRu := Lib.hid (HRu.out.alloc (.cells #[.slice Au nu cu, .string (resE R1)] 25))
    have KBbu := Lib.hid (Blk.new w6 25 #[.slice Au nu cu, .string (resE R1)])
    have HB := Lib.hid (HB.out.alloc HB.out.size (.cells #[.slice Au nu cu, .string (resE R1)] 25))
    have HC := Lib.hid (HINV.out ((w6.alloc (.cells #[.slice Au nu cu, .string (resE R1)] 25))))
    have kbo0 : w6.cell? ⟨w2.heap.size, 0, none⟩ = some (.slice Ao no co) := by have := KBbo.out.cell 0; rwa [World.cell?_alloc_lt _ _ _ (KLbo.out)] at this
    have kbo1 : w6.cell? ⟨w2.heap.size, 1, none⟩ = some (.string (resE R)) := by have := KBbo.out.cell 1; rwa [World.cell?_alloc_lt _ _ _ (KLbo.out)] at this
    have kbol : w2.heap.size < w6.heap.size := KLbo.out
    have kbw0 : w6.cell? ⟨w3.heap.size, 0, none⟩ = some (.slice Aw nw cw) := by have := KBbw.out.cell 0; rwa [World.cell?_alloc_lt _ _ _ (KLbw.out)] at this
    have kbw1 : w6.cell? ⟨w3.heap.size, 1, none⟩ = some (.string (resE R)) := by have := KBbw.out.cell 1; rwa [World.cell?_alloc_lt _ _ _ (KLbw.out)] at this
    have kbwl : w3.heap.size < w6.heap.size := KLbw.out
    go_wp2_with fail
    refine HC.out.mono ?_
    rintro e w7 ⟨rfl, hb⟩
    clear kbo0 kbo1 kbol kbw0 kbw1 kbwl
    have KBbo := Lib.hid (KBbo.out.below hb KBbo.out.lt)
    have KBbw := Lib.hid (KBbw.out.below hb KBbw.out.lt)
    have KBbu := Lib.hid (KBbu.out.below hb KBbu.out.lt)
    have HRo := Lib.hid (own_below0 HRo.out hb)
    have HRw := Lib.hid (own_below0 HRw.out hb)
    have HRu := Lib.hid (own_below0 HRu.out hb)
    have HB := Lib.hid (HB.out.trans (hb.mono HB.out.size))
    clear hb HC
    have HC := Lib.hid (implOfT_any ti hzi w7)
    have kbo0 : w7.cell? ⟨w2.heap.size, 0, none⟩ = some (.slice Ao no co) := KBbo.out.cell 0
    have kbo1 : w7.cell? ⟨w2.heap.size, 1, none⟩ = some (.string (resE R)) := KBbo.out.cell 1
    have kbol : w2.heap.size < w7.heap.size := KBbo.out.lt
    have kbw0 : w7.cell? ⟨w3.heap.size, 0, none⟩ = some (.slice Aw nw cw) := KBbw.out.cell 0
    have kbw1 : w7.cell? ⟨w3.heap.size, 1, none⟩ = some (.string (resE R)) := KBbw.out.cell 1
    have kbwl : w3.heap.size < w7.heap.size := KBbw.out.lt
    have kbu0 : w7.cell? ⟨w6.heap.size, 0, none⟩ = some (.slice Au nu cu) := KBbu.out.cell 0
    have kbu1 : w7.cell? ⟨w6.heap.size, 1, none⟩ = some (.string (resE R1)) := KBbu.out.cell 1
    have kbul : w6.heap.size < w7.heap.size := KBbu.out.lt
    go_wp2_with fail
    refine HC.out.mono ?_
    rintro e w8 ⟨R2, hk, hb, Av, nv, cv, rfl, ho⟩
    clear kbo0 kbo1 kbol kbw0 kbw1 kbwl kbu0 kbu1 kbul
    have KBbo := Lib.hid (KBbo.out.below hb KBbo.out.lt)
    have KBbw := Lib.hid (KBbw.out.below hb KBbw.out.lt)
    have KBbu := Lib.hid (KBbu.out.below hb KBbu.out.lt)
    have HRo := Lib.hid (own_below0 HRo.out hb)
    have HRw := Lib.hid (own_below0 HRw.out hb)
    have HRu := Lib.hid (own_below0 HRu.out hb)
    have HB := Lib.hid (HB.out.trans (hb.mono HB.out.size))
    have HKv := Lib.hid hk
    have HRv := Lib.hid ho
    have HZv := Lib.hid hk.szs
    have hnv : nv ≤ 60 := HZv.out.n HRv.out
    clear hb ho HC hk
    have KLbo : Hid (w2.heap.size < w8.heap.size) := KBbo.out.lt
    have KLbw : Hid (w3.heap.size < w8.heap.size) := KBbw.out.lt
    have KLbu : Hid (w6.heap.size < w8.heap.size) := KBbu.out.lt
    have KBbo := Lib.hid (KBbo.out.alloc (.cells #[.slice Av nv cv, .string (resE R2)] 25))
    have KBbw := Lib.hid (KBbw.out.alloc (.cells #[.slice Av nv cv, .string (resE R2)] 25))
    have KBbu := Lib.hid (KBbu.out.alloc (.cells #[.slice Av nv cv, .string (resE R2)] 25))
    have HRo := Lib.hid (HRo.out.alloc (.cells #[.slice Av nv cv, .string (resE R2)] 25))
    have HRw := Lib.hid (HRw.out.alloc (.cells #[.slice Av nv cv, .string (resE R2)] 25))
    have HRu := Lib.hid (HRu.out.alloc (.cells #[.slice Av nv cv, .string (resE R2)] 25))
    have HRv := Lib.hid (HRv.out.alloc (.cells #[.slice Av nv cv, .string (resE R2)] 25))
    have KBbv := Lib.hid (Blk.new w8 25 #[.slice Av nv cv, .string (resE R2)])
    have HB := Lib.hid (HB.out.alloc HB.out.size (.cells #[.slice Av nv cv, .string (resE R2)] 25))
    have HL := Lib.hid (HOFL.out R1 R2 HKu.out HKv.out)
    cases s1 : R1.isSome with
    | false => exact absurd (s1.symm.trans HL.out.2.1) (by decide)
    | true =>
    cases s2 : R2.isSome with
    | false => exact absurd (s2.symm.trans HL.out.2.2.1) (by decide)
    | true =>
    have hen2 : ((resE R).toList == tr.toList) = true := by rw [HL.out.2.2.2.1]; simp
    have hno2 : (no : Int) ≤ (tw.size : Int) + 1 := by
      have h1 := HL.out.2.2.2.2.1
      rw [own_len HRo.out] at h1
      omega
    have hsm : resL R1 = resL R2 ∧ resE R1 = resE R2 := HL.out.2.2.2.2.2
    have hsd : (decide (resL R1 = resL R2) && decide (resE R1 = resE R2)) = true := by rw [decide_eq_true hsm.1, decide_eq_true hsm.2]; rfl
    have hc := sameTree2_any Au Av nu nv cu cv (resL R1) (resL R2) (resE R1) (resE R2) ((w8.alloc (.cells #[.slice Av nv cv, .string (resE R2)] 25))) (RS.of_own HRu.out) (RS.of_own HRv.out) (by omega)
    rw [hsd] at hc
    have HC := Lib.hid hc
    clear hc hsd hsm
    have kbo0 : w8.cell? ⟨w2.heap.size, 0, none⟩ = some (.slice Ao no co) := by have := KBbo.out.cell 0; rwa [World.cell?_alloc_lt _ _ _ (KLbo.out)] at this
    have kbo1 : w8.cell? ⟨w2.heap.size, 1, none⟩ = some (.string (resE R)) := by have := KBbo.out.cell 1; rwa [World.cell?_alloc_lt _ _ _ (KLbo.out)] at this
    have kbol : w2.heap.size < w8.heap.size := KLbo.out
    have kbw0 : w8.cell? ⟨w3.heap.size, 0, none⟩ = some (.slice Aw nw cw) := by have := KBbw.out.cell 0; rwa [World.cell?_alloc_lt _ _ _ (KLbw.out)] at this
    have kbw1 : w8.cell? ⟨w3.heap.size, 1, none⟩ = some (.string (resE R)) := by have := KBbw.out.cell 1; rwa [World.cell?_alloc_lt _ _ _ (KLbw.out)] at this
    have kbwl : w3.heap.size < w8.heap.size := KLbw.out
    have kbu0 : w8.cell? ⟨w6.heap.size, 0, none⟩ = some (.slice Au nu cu) := by have := KBbu.out.cell 0; rwa [World.cell?_alloc_lt _ _ _ (KLbu.out)] at this
    have kbu1 : w8.cell? ⟨w6.heap.size, 1, none⟩ = some (.string (resE R1)) := by have := KBbu.out.cell 1; rwa [World.cell?_alloc_lt _ _ _ (KLbu.out)] at this
    have kbul : w6.heap.size < w8.heap.size := KLbu.out
    go_wp2_with fail
    refine HC.out.mono ?_
    rintro e w9 ⟨rfl, hb⟩
    clear kbo0 kbo1 kbol kbw0 kbw1 kbwl kbu0 kbu1 kbul
    have KBbo := Lib.hid (KBbo.out.below hb KBbo.out.lt)
    have KBbw := Lib.hid (KBbw.out.below hb KBbw.out.lt)
    have KBbu := Lib.hid (KBbu.out.below hb KBbu.out.lt)
    have KBbv := Lib.hid (KBbv.out.below hb KBbv.out.lt)
    have HRo := Lib.hid (own_below0 HRo.out hb)
    have HRw := Lib.hid (own_below0 HRw.out hb)
    have HRu := Lib.hid (own_below0 HRu.out hb)
    have HRv := Lib.hid (own_below0 HRv.out hb)
    have HB := Lib.hid (HB.out.trans (hb.mono HB.out.size))
    clear hb HC
    go_wp2
    go_ret
    exact ⟨rfl, HB.out⟩

/-! ### THE ROW's STEP -/
abbrev laidL : List (String × DataW Unit) := [("unicode/utf8.acceptRanges", Rows.laid_unicode_utf8_acceptRanges), ("unicode/utf8.first", Rows.laid_unicode_utf8_first)]
theorem laidWorld_met (os : Os) (args : Array Value) : laidMetH Tryd.prog laidL ((World.laidAll Tryd.prog os laidL).forCall (fun _ _ => 0) ⟨#[], args, []⟩).memory :=
  laidMetH_of_parts (laidMet_laidAll _ (by kernel_rfl) (by kernel_rfl)) (by kernel_rfl)

set_option maxRecDepth 100000 in
theorem lifted (os : Os) (started : os.Started) (H : Type) (enc : TypeId × Value → H) :
    ReturnsInHanded {} Tryd.checked os 4 .any (fun w args => (Rows.fnTreeOfSpec.pre enc Tryd.prog Tryd.f4 [] false w args ∧ laidMetH Tryd.prog laidL w) ∧ sizedMet enc Tryd.prog Tryd.f4 (OpenSpec.ofChange Rows.fnTreeOfSpec) false w args) (Rows.fnTreeOfSpec.post enc Tryd.prog Tryd.f4 false true false false) := by
  refine returnsInHanded_of_change_and (C := Tryd.checked) (X := fun w _ => laidMetH Tryd.prog laidL w) (fun _ _ _ hh h => h.of_heap hh) own started (by kernel_rfl) Tryd.func4
    (ChangeSpec.witness_shaped (enc := enc) (C := Tryd.checked) (os := os) (X := fun w _ => laidMetH Tryd.prog laidL w) false (World.laidAll Tryd.prog os laidL) #[.slice none 0 0] 8 rfl (World.shaped_of_ZipB (by kernel_rfl) (by kernel_rfl)) (by kernel_rfl) (by kernel_rfl) (by kernel_rfl) (laidWorld_met os _)) ?_
  intro W base args ds gs before hval0 hW _ _ hL _
  have hval : ∀ (j : Nat) t v, Tryd.f4.params[j]? = some t → args[j]? = some v → Value.okWide Tryd.prog W .any base t v := hval0
  have hW' := hW
  obtain ⟨p, q, hA0, hV, rfl, hfz, hnd⟩ := hW
  have hA : DataW.TrodAll enc Tryd.prog W 0 (fun _ => true) true Tryd.f4.params.toList args.toList ds p := hA0
  rw [Tryd.params4] at hA hval
  obtain ⟨v0, vs0, d0, ds0, p0, qq0, hargs, rfl, rfl, h0, r0⟩ := trodAll_cons hA
  obtain ⟨rfl, rfl, rfl⟩ := trodAll_nil r0
  obtain rfl : args = #[v0] := by cases args; simp_all
  obtain ⟨rfl, rfl⟩ := trodVars_none hV
  obtain ⟨a0, len0, cap0, rfl⟩ := okWide_slice Tryd.underlying22 (hval 0 22 v0 rfl rfl)
  have k0 := h0
  have lt0 : ∀ x ∈ p0, x.block < W.heap.size := by obtain ⟨m, hm⟩ := k0; exact DataW.trod_lt m _ _ _ hm
  obtain ⟨z0, w0⟩ : ∃ zs, IsRow .u8 W a0 len0 cap0 zs := by
    obtain ⟨fuel, hf⟩ := h0
    rcases open_ints Tryd.underlying22 Tryd.underlying5 (by kernel_rfl) hf with ⟨hcs, _⟩ | ⟨x, l, c, zs, hcs, _, hl, hm, hz, _, hcell, hwz⟩
    · simp [Value.cells] at hcs
      obtain ⟨rfl, rfl, rfl⟩ := hcs
      exact ⟨[], .inl ⟨rfl, rfl, rfl, rfl⟩⟩
    · simp [Value.cells] at hcs
      obtain ⟨rfl, rfl, rfl⟩ := hcs
      exact ⟨zs, .inr ⟨_, rfl, hl, hm, by simpa using hz, hcell, hwz⟩⟩
  clear hA0 hval0
  refine (walk a0 len0 cap0 z0 W trivial w0).mono fun e W' ⟨he, bel⟩ => ?_
  subst he
  exact ⟨_, rfl, _, _, _, [], _, [], hW', trodAll_mk1 (shut_bool Tryd.underlying4 _), (trodAll_cons_mk (Below.trod laidOut (by kernel_rfl) (of_decide_eq_true (by kernel_rfl)) k0 bel lt0) trodAll_mk0), rfl, bel.frame _, fun h => by cases h⟩

theorem over : Rows.fnTreeOfRow.holds Tryd.pinned (OpenSpec.ofChange Rows.fnTreeOfSpec) :=
  OpenClaim.holds_of_wide 4 Tryd.f4 rfl rfl rfl rfl rfl rfl rfl ⟨rfl, rfl, rfl, rfl, rfl⟩ rfl rfl rfl rfl rfl (by kernel_rfl) Tryd.func4 (by kernel_rfl)
    (of_decide_eq_true (by kernel_rfl)) (by unfold Func.isWrapper; first | (rw [if_pos (by decide +kernel)]; kernel_rfl) | (rw [if_neg (by decide +kernel)]; exact ⟨rfl, rfl⟩))
    (fun os started H enc _ => lifted os started H enc)

theorem proved : Rows.FnTreeOfCardSaid :=
  Claim7.holds_tied_plain_at .later [] [.data, .pinned] true _ false
    over (fun _ h => by cases h) (by kernel_rfl) (fun _ h => by cases h) fnTreeOf_row_tie rfl ⟨rfl, rfl⟩ (by kernel_rfl) rfl
    (fun f fn hf hfn => by
      obtain rfl : f = 4 := Option.some.inj ((show Tryd.prog.funcNamed Rows.fnTreeOfRow.func = some 4 by kernel_rfl).symm.trans hf) |>.symm
      obtain rfl : fn = Tryd.f4 := (Option.some.inj (Tryd.func4.symm.trans hfn)).symm
      exact ⟨by kernel_rfl, fun j t ht => by
        rw [Tryd.params4] at ht
        rcases j with _ | j
        · have h0 : t = 22 := by simpa using ht.symm
          subst h0
          exact (show Tryd.prog.wantsStandIn 22 = false by kernel_rfl)
        simp at ht⟩)
    (by kernel_rfl)
#print axioms proved
end Go.Proofs.YtlfbocmcbkcfhaaDoor.fnTreeOf

