/-
  FnTreeTimes: for every input the law returns true and leaves its arguments as they were. No condition.
-/
import Derived.Test.YtlfbocmcbkcfhaaDoorRows
import Derived.Test.YtlfbocmcbkcfhaaDoorCards
import Derived.Test.YtlfbocmcbkcfhaaDoorTie
import Derived.Test.YtlfbocmcbkcfhaaDoorUW
import Derived.Test.YtlfbocmcbkcfhaaDoorUV
import Derived.Test.YtlfbocmcbkcfhaaDoorUM
import Derived.Test.YtlfbocmcbkcfhaaDoorUK
import Derived.Test.YtlfbocmcbkcfhaaDoorUL
import Derived.Test.YtlfbocmcbkcfhaaDoorUS
import Derived.WalkKit
import Derived.Deep.QuietTactic
import Derived.BigQuiet
import Derived.Outline
import Derived.ProofKit
import Derived.OpenShut
import Derived.ShutString
import Derived.ChangeOld
import Derived.Below
import Derived.ChangeSame
import Derived.ChangeVars
import Derived.JoinedOf
import Derived.RowKit
import Derived.RowKitTokens
import Derived.LaidLaws
import Derived.LaidHandle
import Derived.Stop.Joined
import Derived.SevenTiedAt
import Derived.Lay
namespace Go.Proofs.YtlfbocmcbkcfhaaDoor.fnTreeTimes
set_option maxRecDepth 100000
open Go.ChangeShapes Go.WideShapes Go.ChangeAt Go.RowKit
open Go.ChangeMaps (open_string shut_string)
set_option linter.unusedVariables false

theorem own : ownKnob Tryd.prog.godebug = none := by kernel_rfl
theorem laidOut : laidOutB Tryd.prog = true := by kernel_rfl

def IsRow (k : IntKind) (w : World) (a : Option Addr) (len cap : Nat) (zs : List Int) : Prop :=
  (a = none ∧ len = 0 ∧ cap = 0 ∧ zs = []) ∨
  ∃ x, a = some x ∧ len ≤ cap ∧ cap ≤ maxLen ∧ zs.length = cap ∧ (∀ i, i < zs.length → w.cell? (x.add i) = some (.int k (zs.getD i 0))) ∧ ∀ n ∈ zs, (Lit.int k n).wf = true

theorem src_of {w : World} {a : Option Addr} {len cap : Nat} {zs : List Int} (h : IsRow .u8 w a len cap zs) : ∃ bs : Nat → Nat, Src w w.heap.size a len bs ∧ len ≤ cap := by
  rcases h with ⟨rfl, rfl, rfl, rfl⟩ | ⟨x, rfl, hlc, _, hz, hc, hw⟩
  · exact ⟨fun _ => 0, ⟨fun _ => (by decide : (0 : Nat) < 256), fun j hj => absurd hj (by omega)⟩, Nat.le_refl _⟩
  · have hr : ∀ j, 0 ≤ zs.getD j 0 ∧ zs.getD j 0 < 256 := fun j => by
      rcases Nat.lt_or_ge j zs.length with h | h
      · have := hw zs[j] (List.getElem_mem h)
        rw [List.getD_eq_getElem?_getD, List.getElem?_eq_getElem h]
        simp [Lit.wf] at this
        have h0 : IntKind.u8.min = 0 := by decide
        have h1 : IntKind.u8.max = 255 := by decide
        rw [h0, h1] at this
        simp
        omega
      · rw [List.getD_eq_getElem?_getD, List.getElem?_eq_none h]; simp
    refine ⟨fun j => (zs.getD j 0).toNat, ⟨fun j => by have := hr j; show (zs.getD j 0).toNat < 256; omega, fun j hj => ⟨x, rfl, ?_, ?_⟩⟩, hlc⟩
    · have := block_lt_of_cell (hc 0 (by omega)); rwa [block_of_add] at this
    · rw [hc j (by omega), Int.toNat_of_nonneg (hr j).1]

set_option maxHeartbeats 3000000 in
theorem walk (a0 : Option Addr) (len0 cap0 : Nat) (z0 : List Int) (w : World) (het : True) (w0 : IsRow .u8 w a0 len0 cap0 z0) :
    Calls Tryd.prog 5 #[.slice a0 len0 cap0] w fun e w' => e = .returned (.bool true) ∧ Below w.heap.size w w' := by
  have HET := Lib.hid het
  clear het

  obtain ⟨bs, hS, hlc⟩ := src_of w0
  clear w0
  by_cases hbig : 1048576 < len0
  · go_enter Tryd.func5, Tryd.ntmps5
    go_wp2
    go_ret
    exact ⟨rfl, Below.refl _ _⟩
  go_enter Tryd.func5, Tryd.ntmps5
  go_wp2_with fail
  refine (drawTTimes_any _ _ _ _ _ hS hlc (by omega)).mono ?_
  rintro e w1 ⟨At, nt, ct, zt, et, Au, nu, cu, zu, eu, rfl, ho, ho', hsz, hsz', hbel⟩
  have HB := Lib.hid hbel
  clear hS hbel hbig
  have HRt := Lib.hid ho
  have HZt := Lib.hid hsz
  have hnt : nt ≤ 60 := HZt.out.n HRt.out
  have HRu := Lib.hid ho'
  have HZu := Lib.hid hsz'
  have hnu : nu ≤ 60 := HZu.out.n HRu.out
  clear ho hsz ho' hsz'
  have HRt := Lib.hid (HRt.out.alloc (.cells #[.slice At nt ct, .string et] 25))
  have HRu := Lib.hid (HRu.out.alloc (.cells #[.slice At nt ct, .string et] 25))
  have KBbt := Lib.hid (Blk.new w1 25 #[.slice At nt ct, .string et])
  have HB := Lib.hid (HB.out.alloc HB.out.size (.cells #[.slice At nt ct, .string et] 25))
  have hz1 : (w1.alloc (.cells #[.slice At nt ct, .string et] 25)).heap.size = w1.heap.size + 1 := by simp
  have KLbt : Hid (w1.heap.size < (w1.alloc (.cells #[.slice At nt ct, .string et] 25)).heap.size) := KBbt.out.lt
  have KBbt := Lib.hid (KBbt.out.alloc (.cells #[.slice Au nu cu, .string eu] 25))
  have HRt := Lib.hid (HRt.out.alloc (.cells #[.slice Au nu cu, .string eu] 25))
  have HRu := Lib.hid (HRu.out.alloc (.cells #[.slice Au nu cu, .string eu] 25))
  have KBbu := Lib.hid (Blk.new (w1.alloc (.cells #[.slice At nt ct, .string et] 25)) 25 #[.slice Au nu cu, .string eu])
  have HB := Lib.hid (HB.out.alloc HB.out.size (.cells #[.slice Au nu cu, .string eu] 25))
  rw [hz1] at KBbu
  clear hz1
  have HC := Lib.hid (implTimes_any At Au nt nu ct cu zt zu et eu (((w1.alloc (.cells #[.slice At nt ct, .string et] 25)).alloc (.cells #[.slice Au nu cu, .string eu] 25))) (RS.of_own HRt.out) (RS.of_own HRu.out) (by omega) (by omega) HZt.out.big.1 HZu.out.big.1 HZt.out.big.2 HZu.out.big.2)
  have kbt0 : ((w1.alloc (.cells #[.slice At nt ct, .string et] 25)).alloc (.cells #[.slice Au nu cu, .string eu] 25)).cell? ⟨w1.heap.size, 0, none⟩ = some (.slice At nt ct) := KBbt.out.cell 0
  have kbt1 : ((w1.alloc (.cells #[.slice At nt ct, .string et] 25)).alloc (.cells #[.slice Au nu cu, .string eu] 25)).cell? ⟨w1.heap.size, 1, none⟩ = some (.string et) := KBbt.out.cell 1
  have kbtl : w1.heap.size < ((w1.alloc (.cells #[.slice At nt ct, .string et] 25)).alloc (.cells #[.slice Au nu cu, .string eu] 25)).heap.size := KBbt.out.lt
  have kbu0 : ((w1.alloc (.cells #[.slice At nt ct, .string et] 25)).alloc (.cells #[.slice Au nu cu, .string eu] 25)).cell? ⟨(w1.heap.size + 1), 0, none⟩ = some (.slice Au nu cu) := KBbu.out.cell 0
  have kbu1 : ((w1.alloc (.cells #[.slice At nt ct, .string et] 25)).alloc (.cells #[.slice Au nu cu, .string eu] 25)).cell? ⟨(w1.heap.size + 1), 1, none⟩ = some (.string eu) := KBbu.out.cell 1
  have kbul : (w1.heap.size + 1) < ((w1.alloc (.cells #[.slice At nt ct, .string et] 25)).alloc (.cells #[.slice Au nu cu, .string eu] 25)).heap.size := KBbu.out.lt
  go_wp2_with fail
  refine HC.out.mono ?_
  rintro e w2 ⟨R, hk, hb, Ao, no, co, rfl, ho⟩
  clear kbt0 kbt1 kbtl kbu0 kbu1 kbul
  have KBbt := Lib.hid (KBbt.out.below hb KBbt.out.lt)
  have KBbu := Lib.hid (KBbu.out.below hb KBbu.out.lt)
  have HRt := Lib.hid (own_below0 HRt.out hb)
  have HRu := Lib.hid (own_below0 HRu.out hb)
  have HB := Lib.hid (HB.out.trans (hb.mono HB.out.size))
  have HKo := Lib.hid hk
  have HRo := Lib.hid ho
  have HZo := Lib.hid hk.szs
  have hno : no ≤ 60 := HZo.out.n HRo.out
  clear hb ho HC hk
  have KLbt : Hid (w1.heap.size < w2.heap.size) := KBbt.out.lt
  have KLbu : Hid ((w1.heap.size + 1) < w2.heap.size) := KBbu.out.lt
  have KBbt := Lib.hid (KBbt.out.alloc (.cells #[.slice Ao no co, .string (resE R)] 25))
  have KBbu := Lib.hid (KBbu.out.alloc (.cells #[.slice Ao no co, .string (resE R)] 25))
  have HRt := Lib.hid (HRt.out.alloc (.cells #[.slice Ao no co, .string (resE R)] 25))
  have HRu := Lib.hid (HRu.out.alloc (.cells #[.slice Ao no co, .string (resE R)] 25))
  have HRo := Lib.hid (HRo.out.alloc (.cells #[.slice Ao no co, .string (resE R)] 25))
  have KBbo := Lib.hid (Blk.new w2 25 #[.slice Ao no co, .string (resE R)])
  have HB := Lib.hid (HB.out.alloc HB.out.size (.cells #[.slice Ao no co, .string (resE R)] 25))
  have HC := Lib.hid (specTimes_any At Au nt nu ct cu zt zu et eu ((w2.alloc (.cells #[.slice Ao no co, .string (resE R)] 25))) (RS.of_own HRt.out) (RS.of_own HRu.out) (by omega) (by omega) HZt.out.big.1 HZu.out.big.1)
  have kbt0 : w2.cell? ⟨w1.heap.size, 0, none⟩ = some (.slice At nt ct) := by have := KBbt.out.cell 0; rwa [World.cell?_alloc_lt _ _ _ (KLbt.out)] at this
  have kbt1 : w2.cell? ⟨w1.heap.size, 1, none⟩ = some (.string et) := by have := KBbt.out.cell 1; rwa [World.cell?_alloc_lt _ _ _ (KLbt.out)] at this
  have kbtl : w1.heap.size < w2.heap.size := KLbt.out
  have kbu0 : w2.cell? ⟨(w1.heap.size + 1), 0, none⟩ = some (.slice Au nu cu) := by have := KBbu.out.cell 0; rwa [World.cell?_alloc_lt _ _ _ (KLbu.out)] at this
  have kbu1 : w2.cell? ⟨(w1.heap.size + 1), 1, none⟩ = some (.string eu) := by have := KBbu.out.cell 1; rwa [World.cell?_alloc_lt _ _ _ (KLbu.out)] at this
  have kbul : (w1.heap.size + 1) < w2.heap.size := KLbu.out
  go_wp2_with fail
  refine HC.out.mono ?_
  rintro e w3 ⟨R', hk, hb, Aw, nw, cw, rfl, ho⟩
  obtain rfl := HKo.out.same hk
  clear kbt0 kbt1 kbtl kbu0 kbu1 kbul
  have KBbt := Lib.hid (KBbt.out.below hb KBbt.out.lt)
  have KBbu := Lib.hid (KBbu.out.below hb KBbu.out.lt)
  have KBbo := Lib.hid (KBbo.out.below hb KBbo.out.lt)
  have HRt := Lib.hid (own_below0 HRt.out hb)
  have HRu := Lib.hid (own_below0 HRu.out hb)
  have HRo := Lib.hid (own_below0 HRo.out hb)
  have HB := Lib.hid (HB.out.trans (hb.mono HB.out.size))
  have HRw := Lib.hid ho
  have HZw := Lib.hid hk.szs
  have hnw : nw ≤ 60 := HZw.out.n HRw.out
  clear hb ho HC hk
  have KLbt : Hid (w1.heap.size < w3.heap.size) := KBbt.out.lt
  have KLbu : Hid ((w1.heap.size + 1) < w3.heap.size) := KBbu.out.lt
  have KLbo : Hid (w2.heap.size < w3.heap.size) := KBbo.out.lt
  have KBbt := Lib.hid (KBbt.out.alloc (.cells #[.slice Aw nw cw, .string (resE R)] 25))
  have KBbu := Lib.hid (KBbu.out.alloc (.cells #[.slice Aw nw cw, .string (resE R)] 25))
  have KBbo := Lib.hid (KBbo.out.alloc (.cells #[.slice Aw nw cw, .string (resE R)] 25))
  have HRt := Lib.hid (HRt.out.alloc (.cells #[.slice Aw nw cw, .string (resE R)] 25))
  have HRu := Lib.hid (HRu.out.alloc (.cells #[.slice Aw nw cw, .string (resE R)] 25))
  have HRo := Lib.hid (HRo.out.alloc (.cells #[.slice Aw nw cw, .string (resE R)] 25))
  have HRw := Lib.hid (HRw.out.alloc (.cells #[.slice Aw nw cw, .string (resE R)] 25))
  have KBbw := Lib.hid (Blk.new w3 25 #[.slice Aw nw cw, .string (resE R)])
  have HB := Lib.hid (HB.out.alloc HB.out.size (.cells #[.slice Aw nw cw, .string (resE R)] 25))
  have hbb : (R.isSome != R.isSome) = false := by simp
  have hbe : (R.isSome == R.isSome) = true := by simp
  have hsm : resL R = resL R ∧ resE R = resE R := ⟨rfl, rfl⟩
  have hsd : (decide (resL R = resL R) && decide (resE R = resE R)) = true := by rw [decide_eq_true hsm.1, decide_eq_true hsm.2]; rfl
  have hc := sameTree2_any Ao Aw no nw co cw (resL R) (resL R) (resE R) (resE R) ((w3.alloc (.cells #[.slice Aw nw cw, .string (resE R)] 25))) (RS.of_own HRo.out) (RS.of_own HRw.out) (by omega)
  rw [hsd] at hc
  have HC := Lib.hid hc
  clear hc hsd hsm
  have kbt0 : w3.cell? ⟨w1.heap.size, 0, none⟩ = some (.slice At nt ct) := by have := KBbt.out.cell 0; rwa [World.cell?_alloc_lt _ _ _ (KLbt.out)] at this
  have kbt1 : w3.cell? ⟨w1.heap.size, 1, none⟩ = some (.string et) := by have := KBbt.out.cell 1; rwa [World.cell?_alloc_lt _ _ _ (KLbt.out)] at this
  have kbtl : w1.heap.size < w3.heap.size := KLbt.out
  have kbu0 : w3.cell? ⟨(w1.heap.size + 1), 0, none⟩ = some (.slice Au nu cu) := by have := KBbu.out.cell 0; rwa [World.cell?_alloc_lt _ _ _ (KLbu.out)] at this
  have kbu1 : w3.cell? ⟨(w1.heap.size + 1), 1, none⟩ = some (.string eu) := by have := KBbu.out.cell 1; rwa [World.cell?_alloc_lt _ _ _ (KLbu.out)] at this
  have kbul : (w1.heap.size + 1) < w3.heap.size := KLbu.out
  have kbo0 : w3.cell? ⟨w2.heap.size, 0, none⟩ = some (.slice Ao no co) := by have := KBbo.out.cell 0; rwa [World.cell?_alloc_lt _ _ _ (KLbo.out)] at this
  have kbo1 : w3.cell? ⟨w2.heap.size, 1, none⟩ = some (.string (resE R)) := by have := KBbo.out.cell 1; rwa [World.cell?_alloc_lt _ _ _ (KLbo.out)] at this
  have kbol : w2.heap.size < w3.heap.size := KLbo.out
  go_wp2_with fail
  refine HC.out.mono ?_
  rintro e w4 ⟨rfl, hb⟩
  clear kbt0 kbt1 kbtl kbu0 kbu1 kbul kbo0 kbo1 kbol
  have KBbt := Lib.hid (KBbt.out.below hb KBbt.out.lt)
  have KBbu := Lib.hid (KBbu.out.below hb KBbu.out.lt)
  have KBbo := Lib.hid (KBbo.out.below hb KBbo.out.lt)
  have KBbw := Lib.hid (KBbw.out.below hb KBbw.out.lt)
  have HRt := Lib.hid (own_below0 HRt.out hb)
  have HRu := Lib.hid (own_below0 HRu.out hb)
  have HRo := Lib.hid (own_below0 HRo.out hb)
  have HRw := Lib.hid (own_below0 HRw.out hb)
  have HB := Lib.hid (HB.out.trans (hb.mono HB.out.size))
  clear hb HC
  cases s0 : R.isSome with
  | false =>
    rw [s0] at hbb hbe
    have hsm : resL R = resL R ∧ resE R = resE R := ⟨rfl, rfl⟩
    have hsd : (decide (resL R = resL R) && decide (resE R = resE R)) = true := by rw [decide_eq_true hsm.1, decide_eq_true hsm.2]; rfl
    have hc := sameTree2_any Ao Aw no nw co cw (resL R) (resL R) (resE R) (resE R) w4 (RS.of_own HRo.out) (RS.of_own HRw.out) (by omega)
    rw [hsd] at hc
    have HC := Lib.hid hc
    clear hc hsd hsm
    have kbt0 : w4.cell? ⟨w1.heap.size, 0, none⟩ = some (.slice At nt ct) := KBbt.out.cell 0
    have kbt1 : w4.cell? ⟨w1.heap.size, 1, none⟩ = some (.string et) := KBbt.out.cell 1
    have kbtl : w1.heap.size < w4.heap.size := KBbt.out.lt
    have kbu0 : w4.cell? ⟨(w1.heap.size + 1), 0, none⟩ = some (.slice Au nu cu) := KBbu.out.cell 0
    have kbu1 : w4.cell? ⟨(w1.heap.size + 1), 1, none⟩ = some (.string eu) := KBbu.out.cell 1
    have kbul : (w1.heap.size + 1) < w4.heap.size := KBbu.out.lt
    have kbo0 : w4.cell? ⟨w2.heap.size, 0, none⟩ = some (.slice Ao no co) := KBbo.out.cell 0
    have kbo1 : w4.cell? ⟨w2.heap.size, 1, none⟩ = some (.string (resE R)) := KBbo.out.cell 1
    have kbol : w2.heap.size < w4.heap.size := KBbo.out.lt
    have kbw0 : w4.cell? ⟨w3.heap.size, 0, none⟩ = some (.slice Aw nw cw) := KBbw.out.cell 0
    have kbw1 : w4.cell? ⟨w3.heap.size, 1, none⟩ = some (.string (resE R)) := KBbw.out.cell 1
    have kbwl : w3.heap.size < w4.heap.size := KBbw.out.lt
    go_wp2_with fail
    refine HC.out.mono ?_
    rintro e w5 ⟨rfl, hb⟩
    clear kbt0 kbt1 kbtl kbu0 kbu1 kbul kbo0 kbo1 kbol kbw0 kbw1 kbwl
    have KBbt := Lib.hid (KBbt.out.below hb KBbt.out.lt)
    have KBbu := Lib.hid (KBbu.out.below hb KBbu.out.lt)
    have KBbo := Lib.hid (KBbo.out.below hb KBbo.out.lt)
    have KBbw := Lib.hid (KBbw.out.below hb KBbw.out.lt)
    have HRt := Lib.hid (own_below0 HRt.out hb)
    have HRu := Lib.hid (own_below0 HRu.out hb)
    have HRo := Lib.hid (own_below0 HRo.out hb)
    have HRw := Lib.hid (own_below0 HRw.out hb)
    have HB := Lib.hid (HB.out.trans (hb.mono HB.out.size))
    clear hb HC
    go_wp2
    go_ret
    exact ⟨rfl, HB.out⟩
  | true =>
    rw [s0] at hbb hbe
    have HC := Lib.hid (implTimes_any Ao At no nt co ct (resL R) zt (resE R) et w4 (RS.of_own HRo.out) (RS.of_own HRt.out) (by omega) (by omega) HZo.out.big.1 HZt.out.big.1 HZo.out.big.2 HZt.out.big.2)
    have kbt0 : w4.cell? ⟨w1.heap.size, 0, none⟩ = some (.slice At nt ct) := KBbt.out.cell 0
    have kbt1 : w4.cell? ⟨w1.heap.size, 1, none⟩ = some (.string et) := KBbt.out.cell 1
    have kbtl : w1.heap.size < w4.heap.size := KBbt.out.lt
    have kbu0 : w4.cell? ⟨(w1.heap.size + 1), 0, none⟩ = some (.slice Au nu cu) := KBbu.out.cell 0
    have kbu1 : w4.cell? ⟨(w1.heap.size + 1), 1, none⟩ = some (.string eu) := KBbu.out.cell 1
    have kbul : (w1.heap.size + 1) < w4.heap.size := KBbu.out.lt
    have kbo0 : w4.cell? ⟨w2.heap.size, 0, none⟩ = some (.slice Ao no co) := KBbo.out.cell 0
    have kbo1 : w4.cell? ⟨w2.heap.size, 1, none⟩ = some (.string (resE R)) := KBbo.out.cell 1
    have kbol : w2.heap.size < w4.heap.size := KBbo.out.lt
    have kbw0 : w4.cell? ⟨w3.heap.size, 0, none⟩ = some (.slice Aw nw cw) := KBbw.out.cell 0
    have kbw1 : w4.cell? ⟨w3.heap.size, 1, none⟩ = some (.string (resE R)) := KBbw.out.cell 1
    have kbwl : w3.heap.size < w4.heap.size := KBbw.out.lt
    go_wp2_with fail
    refine HC.out.mono ?_
    rintro e w5 ⟨R1, hk, hb, Aa, na, ca, rfl, ho⟩
    clear kbt0 kbt1 kbtl kbu0 kbu1 kbul kbo0 kbo1 kbol kbw0 kbw1 kbwl
    have KBbt := Lib.hid (KBbt.out.below hb KBbt.out.lt)
    have KBbu := Lib.hid (KBbu.out.below hb KBbu.out.lt)
    have KBbo := Lib.hid (KBbo.out.below hb KBbo.out.lt)
    have KBbw := Lib.hid (KBbw.out.below hb KBbw.out.lt)
    have HRt := Lib.hid (own_below0 HRt.out hb)
    have HRu := Lib.hid (own_below0 HRu.out hb)
    have HRo := Lib.hid (own_below0 HRo.out hb)
    have HRw := Lib.hid (own_below0 HRw.out hb)
    have HB := Lib.hid (HB.out.trans (hb.mono HB.out.size))
    have HKa := Lib.hid hk
    have HRa := Lib.hid ho
    have HZa := Lib.hid hk.szs
    have hna : na ≤ 60 := HZa.out.n HRa.out
    clear hb ho HC hk
    have KLbt : Hid (w1.heap.size < w5.heap.size) := KBbt.out.lt
    have KLbu : Hid ((w1.heap.size + 1) < w5.heap.size) := KBbu.out.lt
    have KLbo : Hid (w2.heap.size < w5.heap.size) := KBbo.out.lt
    have KLbw : Hid (w3.heap.size < w5.heap.size) := KBbw.out.lt
    have KBbt := Lib.hid (KBbt.out.alloc (.cells #[.slice Aa na ca, .string (resE R1)] 25))
    have KBbu := Lib.hid (KBbu.out.alloc (.cells #[.slice Aa na ca, .string (resE R1)] 25))
    have KBbo := Lib.hid (KBbo.out.alloc (.cells #[.slice Aa na ca, .string (resE R1)] 25))
    have KBbw := Lib.hid (KBbw.out.alloc (.cells #[.slice Aa na ca, .string (resE R1)] 25))
    have HRt := Lib.hid (HRt.out.alloc (.cells #[.slice Aa na ca, .string (resE R1)] 25))
    have HRu := Lib.hid (HRu.out.alloc (.cells #[.slice Aa na ca, .string (resE R1)] 25))
    have HRo := Lib.hid (HRo.out.alloc (.cells #[.slice Aa na ca, .string (resE R1)] 25))
    have HRw := Lib.hid (HRw.out.alloc (.cells #[.slice Aa na ca, .string (resE R1)] 25))
    have HRa := Lib.hid (HRa.out.alloc (.cells #[.slice Aa na ca, .string (resE R1)] 25))
    have KBba := Lib.hid (Blk.new w5 25 #[.slice Aa na ca, .string (resE R1)])
    have HB := Lib.hid (HB.out.alloc HB.out.size (.cells #[.slice Aa na ca, .string (resE R1)] 25))
    have HC := Lib.hid (implTimes_any Au At nu nt cu ct zu zt eu et ((w5.alloc (.cells #[.slice Aa na ca, .string (resE R1)] 25))) (RS.of_own HRu.out) (RS.of_own HRt.out) (by omega) (by omega) HZu.out.big.1 HZt.out.big.1 HZu.out.big.2 HZt.out.big.2)
    have kbt0 : w5.cell? ⟨w1.heap.size, 0, none⟩ = some (.slice At nt ct) := by have := KBbt.out.cell 0; rwa [World.cell?_alloc_lt _ _ _ (KLbt.out)] at this
    have kbt1 : w5.cell? ⟨w1.heap.size, 1, none⟩ = some (.string et) := by have := KBbt.out.cell 1; rwa [World.cell?_alloc_lt _ _ _ (KLbt.out)] at this
    have kbtl : w1.heap.size < w5.heap.size := KLbt.out
    have kbu0 : w5.cell? ⟨(w1.heap.size + 1), 0, none⟩ = some (.slice Au nu cu) := by have := KBbu.out.cell 0; rwa [World.cell?_alloc_lt _ _ _ (KLbu.out)] at this
    have kbu1 : w5.cell? ⟨(w1.heap.size + 1), 1, none⟩ = some (.string eu) := by have := KBbu.out.cell 1; rwa [World.cell?_alloc_lt _ _ _ (KLbu.out)] at this
    have kbul : (w1.heap.size + 1) < w5.heap.size := KLbu.out
    have kbo0 : w5.cell? ⟨w2.heap.size, 0, none⟩ = some (.slice Ao no co) := by have := KBbo.out.cell 0; rwa [World.cell?_alloc_lt _ _ _ (KLbo.out)] at this
    have kbo1 : w5.cell? ⟨w2.heap.size, 1, none⟩ = some (.string (resE R)) := by have := KBbo.out.cell 1; rwa [World.cell?_alloc_lt _ _ _ (KLbo.out)] at this
    have kbol : w2.heap.size < w5.heap.size := KLbo.out
    have kbw0 : w5.cell? ⟨w3.heap.size, 0, none⟩ = some (.slice Aw nw cw) := by have := KBbw.out.cell 0; rwa [World.cell?_alloc_lt _ _ _ (KLbw.out)] at this
    have kbw1 : w5.cell? ⟨w3.heap.size, 1, none⟩ = some (.string (resE R)) := by have := KBbw.out.cell 1; rwa [World.cell?_alloc_lt _ _ _ (KLbw.out)] at this
    have kbwl : w3.heap.size < w5.heap.size := KLbw.out
    go_wp2_with fail
    refine HC.out.mono ?_
    rintro e w6 ⟨R2, hk, hb, Ab, nb, cb, rfl, ho⟩
    clear kbt0 kbt1 kbtl kbu0 kbu1 kbul kbo0 kbo1 kbol kbw0 kbw1 kbwl
    have KBbt := Lib.hid (KBbt.out.below hb KBbt.out.lt)
    have KBbu := Lib.hid (KBbu.out.below hb KBbu.out.lt)
    have KBbo := Lib.hid (KBbo.out.below hb KBbo.out.lt)
    have KBbw := Lib.hid (KBbw.out.below hb KBbw.out.lt)
    have KBba := Lib.hid (KBba.out.below hb KBba.out.lt)
    have HRt := Lib.hid (own_below0 HRt.out hb)
    have HRu := Lib.hid (own_below0 HRu.out hb)
    have HRo := Lib.hid (own_below0 HRo.out hb)
    have HRw := Lib.hid (own_below0 HRw.out hb)
    have HRa := Lib.hid (own_below0 HRa.out hb)
    have HB := Lib.hid (HB.out.trans (hb.mono HB.out.size))
    have HKb := Lib.hid hk
    have HRb := Lib.hid ho
    have HZb := Lib.hid hk.szs
    have hnb : nb ≤ 60 := HZb.out.n HRb.out
    clear hb ho HC hk
    have KLbt : Hid (w1.heap.size < w6.heap.size) := KBbt.out.lt
    have KLbu : Hid ((w1.heap.size + 1) < w6.heap.size) := KBbu.out.lt
    have KLbo : Hid (w2.heap.size < w6.heap.size) := KBbo.out.lt
    have KLbw : Hid (w3.heap.size < w6.heap.size) := KBbw.out.lt
    have KLba : Hid (w5.heap.size < w6.heap.size) := KBba.out.lt
    have KBbt := Lib.hid (KBbt.out.alloc (.cells #[.slice Ab nb cb, .string (resE R2)] 25))
    have KBbu := Lib.hid (KBbu.out.alloc (.cells #[.slice Ab nb cb, .string (resE R2)] 25))
    have KBbo := Lib.hid (KBbo.out.alloc (.cells #[.slice Ab nb cb, .string (resE R2)] 25))
    have KBbw := Lib.hid (KBbw.out.alloc (.cells #[.slice Ab nb cb, .string (resE R2)] 25))
    have KBba := Lib.hid (KBba.out.alloc (.cells #[.slice Ab nb cb, .string (resE R2)] 25))
    have HRt := Lib.hid (HRt.out.alloc (.cells #[.slice Ab nb cb, .string (resE R2)] 25))
    have HRu := Lib.hid (HRu.out.alloc (.cells #[.slice Ab nb cb, .string (resE R2)] 25))
    have HRo := Lib.hid (HRo.out.alloc (.cells #[.slice Ab nb cb, .string (resE R2)] 25))
    have HRw := Lib.hid (HRw.out.alloc (.cells #[.slice Ab nb cb, .string (resE R2)] 25))
    have HRa := Lib.hid (HRa.out.alloc (.cells #[.slice Ab nb cb, .string (resE R2)] 25))
    have HRb := Lib.hid (HRb.out.alloc (.cells #[.slice Ab nb cb, .string (resE R2)] 25))
    have KBbb := Lib.hid (Blk.new w6 25 #[.slice Ab nb cb, .string (resE R2)])
    have HB := Lib.hid (HB.out.alloc HB.out.size (.cells #[.slice Ab nb cb, .string (resE R2)] 25))
    have HC := Lib.hid (implTimes_any At Ab nt nb ct cb zt (resL R2) et (resE R2) ((w6.alloc (.cells #[.slice Ab nb cb, .string (resE R2)] 25))) (RS.of_own HRt.out) (RS.of_own HRb.out) (by omega) (by omega) HZt.out.big.1 HZb.out.big.1 HZt.out.big.2 HZb.out.big.2)
    have kbt0 : w6.cell? ⟨w1.heap.size, 0, none⟩ = some (.slice At nt ct) := by have := KBbt.out.cell 0; rwa [World.cell?_alloc_lt _ _ _ (KLbt.out)] at this
    have kbt1 : w6.cell? ⟨w1.heap.size, 1, none⟩ = some (.string et) := by have := KBbt.out.cell 1; rwa [World.cell?_alloc_lt _ _ _ (KLbt.out)] at this
    have kbtl : w1.heap.size < w6.heap.size := KLbt.out
    have kbu0 : w6.cell? ⟨(w1.heap.size + 1), 0, none⟩ = some (.slice Au nu cu) := by have := KBbu.out.cell 0; rwa [World.cell?_alloc_lt _ _ _ (KLbu.out)] at this
    have kbu1 : w6.cell? ⟨(w1.heap.size + 1), 1, none⟩ = some (.string eu) := by have := KBbu.out.cell 1; rwa [World.cell?_alloc_lt _ _ _ (KLbu.out)] at this
    have kbul : (w1.heap.size + 1) < w6.heap.size := KLbu.out
    have kbo0 : w6.cell? ⟨w2.heap.size, 0, none⟩ = some (.slice Ao no co) := by have := KBbo.out.cell 0; rwa [World.cell?_alloc_lt _ _ _ (KLbo.out)] at this
    have kbo1 : w6.cell? ⟨w2.heap.size, 1, none⟩ = some (.string (resE R)) := by have := KBbo.out.cell 1; rwa [World.cell?_alloc_lt _ _ _ (KLbo.out)] at this
    have kbol : w2.heap.size < w6.heap.size := KLbo.out
    have kbw0 : w6.cell? ⟨w3.heap.size, 0, none⟩ = some (.slice Aw nw cw) := by have := KBbw.out.cell 0; rwa [World.cell?_alloc_lt _ _ _ (KLbw.out)] at this
    have kbw1 : w6.cell? ⟨w3.heap.size, 1, none⟩ = some (.string (resE R)) := by have := KBbw.out.cell 1; rwa [World.cell?_alloc_lt _ _ _ (KLbw.out)] at this
    have kbwl : w3.heap.size < w6.heap.size := KLbw.out
    have kba0 : w6.cell? ⟨w5.heap.size, 0, none⟩ = some (.slice Aa na ca) := by have := KBba.out.cell 0; rwa [World.cell?_alloc_lt _ _ _ (KLba.out)] at this
    have kba1 : w6.cell? ⟨w5.heap.size, 1, none⟩ = some (.string (resE R1)) := by have := KBba.out.cell 1; rwa [World.cell?_alloc_lt _ _ _ (KLba.out)] at this
    have kbal : w5.heap.size < w6.heap.size := KLba.out
    go_wp2_with fail
    refine HC.out.mono ?_
    rintro e w7 ⟨R3, hk, hb, Ac, nc, cc, rfl, ho⟩
    clear kbt0 kbt1 kbtl kbu0 kbu1 kbul kbo0 kbo1 kbol kbw0 kbw1 kbwl kba0 kba1 kbal
    have KBbt := Lib.hid (KBbt.out.below hb KBbt.out.lt)
    have KBbu := Lib.hid (KBbu.out.below hb KBbu.out.lt)
    have KBbo := Lib.hid (KBbo.out.below hb KBbo.out.lt)
    have KBbw := Lib.hid (KBbw.out.below hb KBbw.out.lt)
    have KBba := Lib.hid (KBba.out.below hb KBba.out.lt)
    have KBbb := Lib.hid (KBbb.out.below hb KBbb.out.lt)
    have HRt := Lib.hid (own_below0 HRt.out hb)
    have HRu := Lib.hid (own_below0 HRu.out hb)
    have HRo := Lib.hid (own_below0 HRo.out hb)
    have HRw := Lib.hid (own_below0 HRw.out hb)
    have HRa := Lib.hid (own_below0 HRa.out hb)
    have HRb := Lib.hid (own_below0 HRb.out hb)
    have HB := Lib.hid (HB.out.trans (hb.mono HB.out.size))
    have HKc := Lib.hid hk
    have HRc := Lib.hid ho
    have HZc := Lib.hid hk.szs
    have hnc : nc ≤ 60 := HZc.out.n HRc.out
    clear hb ho HC hk
    have KLbt : Hid (w1.heap.size < w7.heap.size) := KBbt.out.lt
    have KLbu : Hid ((w1.heap.size + 1) < w7.heap.size) := KBbu.out.lt
    have KLbo : Hid (w2.heap.size < w7.heap.size) := KBbo.out.lt
    have KLbw : Hid (w3.heap.size < w7.heap.size) := KBbw.out.lt
    have KLba : Hid (w5.heap.size < w7.heap.size) := KBba.out.lt
    have KLbb : Hid (w6.heap.size < w7.heap.size) := KBbb.out.lt
    have KBbt := Lib.hid (KBbt.out.alloc (.cells #[.slice Ac nc cc, .string (resE R3)] 25))
    have KBbu := Lib.hid (KBbu.out.alloc (.cells #[.slice Ac nc cc, .string (resE R3)] 25))
    have KBbo := Lib.hid (KBbo.out.alloc (.cells #[.slice Ac nc cc, .string (resE R3)] 25))
    have KBbw := Lib.hid (KBbw.out.alloc (.cells #[.slice Ac nc cc, .string (resE R3)] 25))
    have KBba := Lib.hid (KBba.out.alloc (.cells #[.slice Ac nc cc, .string (resE R3)] 25))
    have KBbb := Lib.hid (KBbb.out.alloc (.cells #[.slice Ac nc cc, .string (resE R3)] 25))
    have HRt := Lib.hid (HRt.out.alloc (.cells #[.slice Ac nc cc, .string (resE R3)] 25))
    have HRu := Lib.hid (HRu.out.alloc (.cells #[.slice Ac nc cc, .string (resE R3)] 25))
    have HRo := Lib.hid (HRo.out.alloc (.cells #[.slice Ac nc cc, .string (resE R3)] 25))
    have HRw := Lib.hid (HRw.out.alloc (.cells #[.slice Ac nc cc, .string (resE R3)] 25))
    have HRa := Lib.hid (HRa.out.alloc (.cells #[.slice Ac nc cc, .string (resE R3)] 25))
    have HRb := Lib.hid (HRb.out.alloc (.cells #[.slice Ac nc cc, .string (resE R3)] 25))
    have HRc := Lib.hid (HRc.out.alloc (.cells #[.slice Ac nc cc, .string (resE R3)] 25))
    have KBbc := Lib.hid (Blk.new w7 25 #[.slice Ac nc cc, .string (resE R3)])
    have HB := Lib.hid (HB.out.alloc HB.out.size (.cells #[.slice Ac nc cc, .string (resE R3)] 25))
    have HC := Lib.hid (implTurned_any Ao no co (resL R) (resE R) ((w7.alloc (.cells #[.slice Ac nc cc, .string (resE R3)] 25))) (RS.of_own HRo.out) (by omega) HZo.out.big.1 HZo.out.big.2)
    have kbt0 : w7.cell? ⟨w1.heap.size, 0, none⟩ = some (.slice At nt ct) := by have := KBbt.out.cell 0; rwa [World.cell?_alloc_lt _ _ _ (KLbt.out)] at this
    have kbt1 : w7.cell? ⟨w1.heap.size, 1, none⟩ = some (.string et) := by have := KBbt.out.cell 1; rwa [World.cell?_alloc_lt _ _ _ (KLbt.out)] at this
    have kbtl : w1.heap.size < w7.heap.size := KLbt.out
    have kbu0 : w7.cell? ⟨(w1.heap.size + 1), 0, none⟩ = some (.slice Au nu cu) := by have := KBbu.out.cell 0; rwa [World.cell?_alloc_lt _ _ _ (KLbu.out)] at this
    have kbu1 : w7.cell? ⟨(w1.heap.size + 1), 1, none⟩ = some (.string eu) := by have := KBbu.out.cell 1; rwa [World.cell?_alloc_lt _ _ _ (KLbu.out)] at this
    have kbul : (w1.heap.size + 1) < w7.heap.size := KLbu.out
    have kbo0 : w7.cell? ⟨w2.heap.size, 0, none⟩ = some (.slice Ao no co) := by have := KBbo.out.cell 0; rwa [World.cell?_alloc_lt _ _ _ (KLbo.out)] at this
    have kbo1 : w7.cell? ⟨w2.heap.size, 1, none⟩ = some (.string (resE R)) := by have := KBbo.out.cell 1; rwa [World.cell?_alloc_lt _ _ _ (KLbo.out)] at this
    have kbol : w2.heap.size < w7.heap.size := KLbo.out
    have kbw0 : w7.cell? ⟨w3.heap.size, 0, none⟩ = some (.slice Aw nw cw) := by have := KBbw.out.cell 0; rwa [World.cell?_alloc_lt _ _ _ (KLbw.out)] at this
    have kbw1 : w7.cell? ⟨w3.heap.size, 1, none⟩ = some (.string (resE R)) := by have := KBbw.out.cell 1; rwa [World.cell?_alloc_lt _ _ _ (KLbw.out)] at this
    have kbwl : w3.heap.size < w7.heap.size := KLbw.out
    have kba0 : w7.cell? ⟨w5.heap.size, 0, none⟩ = some (.slice Aa na ca) := by have := KBba.out.cell 0; rwa [World.cell?_alloc_lt _ _ _ (KLba.out)] at this
    have kba1 : w7.cell? ⟨w5.heap.size, 1, none⟩ = some (.string (resE R1)) := by have := KBba.out.cell 1; rwa [World.cell?_alloc_lt _ _ _ (KLba.out)] at this
    have kbal : w5.heap.size < w7.heap.size := KLba.out
    have kbb0 : w7.cell? ⟨w6.heap.size, 0, none⟩ = some (.slice Ab nb cb) := by have := KBbb.out.cell 0; rwa [World.cell?_alloc_lt _ _ _ (KLbb.out)] at this
    have kbb1 : w7.cell? ⟨w6.heap.size, 1, none⟩ = some (.string (resE R2)) := by have := KBbb.out.cell 1; rwa [World.cell?_alloc_lt _ _ _ (KLbb.out)] at this
    have kbbl : w6.heap.size < w7.heap.size := KLbb.out
    go_wp2_with fail
    refine HC.out.mono ?_
    rintro e w8 ⟨R4, hk, hb, Ad, nd, cd, rfl, ho⟩
    clear kbt0 kbt1 kbtl kbu0 kbu1 kbul kbo0 kbo1 kbol kbw0 kbw1 kbwl kba0 kba1 kbal kbb0 kbb1 kbbl
    have KBbt := Lib.hid (KBbt.out.below hb KBbt.out.lt)
    have KBbu := Lib.hid (KBbu.out.below hb KBbu.out.lt)
    have KBbo := Lib.hid (KBbo.out.below hb KBbo.out.lt)
    have KBbw := Lib.hid (KBbw.out.below hb KBbw.out.lt)
    have KBba := Lib.hid (KBba.out.below hb KBba.out.lt)
    have KBbb := Lib.hid (KBbb.out.below hb KBbb.out.lt)
    have KBbc := Lib.hid (KBbc.out.below hb KBbc.out.lt)
    have HRt := Lib.hid (own_below0 HRt.out hb)
    have HRu := Lib.hid (own_below0 HRu.out hb)
    have HRo := Lib.hid (own_below0 HRo.out hb)
    have HRw := Lib.hid (own_below0 HRw.out hb)
    have HRa := Lib.hid (own_below0 HRa.out hb)
    have HRb := Lib.hid (own_below0 HRb.out hb)
    have HRc := Lib.hid (own_below0 HRc.out hb)
    have HB := Lib.hid (HB.out.trans (hb.mono HB.out.size))
    have HKd := Lib.hid hk
    have HRd := Lib.hid ho
    have HZd := Lib.hid hk.szs
    have hnd : nd ≤ 60 := HZd.out.n HRd.out
    clear hb ho HC hk
    have KLbt : Hid (w1.heap.size < w8.heap.size) := KBbt.out.lt
    have KLbu : Hid ((w1.heap.size + 1) < w8.heap.size) := KBbu.out.lt
    have KLbo : Hid (w2.heap.size < w8.heap.size) := KBbo.out.lt
    have KLbw : Hid (w3.heap.size < w8.heap.size) := KBbw.out.lt
    have KLba : Hid (w5.heap.size < w8.heap.size) := KBba.out.lt
    have KLbb : Hid (w6.heap.size < w8.heap.size) := KBbb.out.lt
    have KLbc : Hid (w7.heap.size < w8.heap.size) := KBbc.out.lt
    have KBbt := Lib.hid (KBbt.out.alloc (.cells #[.slice Ad nd cd, .string (resE R4)] 25))
    have KBbu := Lib.hid (KBbu.out.alloc (.cells #[.slice Ad nd cd, .string (resE R4)] 25))
    have KBbo := Lib.hid (KBbo.out.alloc (.cells #[.slice Ad nd cd, .string (resE R4)] 25))
    have KBbw := Lib.hid (KBbw.out.alloc (.cells #[.slice Ad nd cd, .string (resE R4)] 25))
    have KBba := Lib.hid (KBba.out.alloc (.cells #[.slice Ad nd cd, .string (resE R4)] 25))
    have KBbb := Lib.hid (KBbb.out.alloc (.cells #[.slice Ad nd cd, .string (resE R4)] 25))
    have KBbc := Lib.hid (KBbc.out.alloc (.cells #[.slice Ad nd cd, .string (resE R4)] 25))
    have HRt := Lib.hid (HRt.out.alloc (.cells #[.slice Ad nd cd, .string (resE R4)] 25))
    have HRu := Lib.hid (HRu.out.alloc (.cells #[.slice Ad nd cd, .string (resE R4)] 25))
    have HRo := Lib.hid (HRo.out.alloc (.cells #[.slice Ad nd cd, .string (resE R4)] 25))
    have HRw := Lib.hid (HRw.out.alloc (.cells #[.slice Ad nd cd, .string (resE R4)] 25))
    have HRa := Lib.hid (HRa.out.alloc (.cells #[.slice Ad nd cd, .string (resE R4)] 25))
    have HRb := Lib.hid (HRb.out.alloc (.cells #[.slice Ad nd cd, .string (resE R4)] 25))
    have HRc := Lib.hid (HRc.out.alloc (.cells #[.slice Ad nd cd, .string (resE R4)] 25))
    have HRd := Lib.hid (HRd.out.alloc (.cells #[.slice Ad nd cd, .string (resE R4)] 25))
    have KBbd := Lib.hid (Blk.new w8 25 #[.slice Ad nd cd, .string (resE R4)])
    have HB := Lib.hid (HB.out.alloc HB.out.size (.cells #[.slice Ad nd cd, .string (resE R4)] 25))
    have HC := Lib.hid (implTurned_any Au nu cu zu eu ((w8.alloc (.cells #[.slice Ad nd cd, .string (resE R4)] 25))) (RS.of_own HRu.out) (by omega) HZu.out.big.1 HZu.out.big.2)
    have kbt0 : w8.cell? ⟨w1.heap.size, 0, none⟩ = some (.slice At nt ct) := by have := KBbt.out.cell 0; rwa [World.cell?_alloc_lt _ _ _ (KLbt.out)] at this
    have kbt1 : w8.cell? ⟨w1.heap.size, 1, none⟩ = some (.string et) := by have := KBbt.out.cell 1; rwa [World.cell?_alloc_lt _ _ _ (KLbt.out)] at this
    have kbtl : w1.heap.size < w8.heap.size := KLbt.out
    have kbu0 : w8.cell? ⟨(w1.heap.size + 1), 0, none⟩ = some (.slice Au nu cu) := by have := KBbu.out.cell 0; rwa [World.cell?_alloc_lt _ _ _ (KLbu.out)] at this
    have kbu1 : w8.cell? ⟨(w1.heap.size + 1), 1, none⟩ = some (.string eu) := by have := KBbu.out.cell 1; rwa [World.cell?_alloc_lt _ _ _ (KLbu.out)] at this
    have kbul : (w1.heap.size + 1) < w8.heap.size := KLbu.out
    have kbo0 : w8.cell? ⟨w2.heap.size, 0, none⟩ = some (.slice Ao no co) := by have := KBbo.out.cell 0; rwa [World.cell?_alloc_lt _ _ _ (KLbo.out)] at this
    have kbo1 : w8.cell? ⟨w2.heap.size, 1, none⟩ = some (.string (resE R)) := by have := KBbo.out.cell 1; rwa [World.cell?_alloc_lt _ _ _ (KLbo.out)] at this
    have kbol : w2.heap.size < w8.heap.size := KLbo.out
    have kbw0 : w8.cell? ⟨w3.heap.size, 0, none⟩ = some (.slice Aw nw cw) := by have := KBbw.out.cell 0; rwa [World.cell?_alloc_lt _ _ _ (KLbw.out)] at this
    have kbw1 : w8.cell? ⟨w3.heap.size, 1, none⟩ = some (.string (resE R)) := by have := KBbw.out.cell 1; rwa [World.cell?_alloc_lt _ _ _ (KLbw.out)] at this
    have kbwl : w3.heap.size < w8.heap.size := KLbw.out
    have kba0 : w8.cell? ⟨w5.heap.size, 0, none⟩ = some (.slice Aa na ca) := by have := KBba.out.cell 0; rwa [World.cell?_alloc_lt _ _ _ (KLba.out)] at this
    have kba1 : w8.cell? ⟨w5.heap.size, 1, none⟩ = some (.string (resE R1)) := by have := KBba.out.cell 1; rwa [World.cell?_alloc_lt _ _ _ (KLba.out)] at this
    have kbal : w5.heap.size < w8.heap.size := KLba.out
    have kbb0 : w8.cell? ⟨w6.heap.size, 0, none⟩ = some (.slice Ab nb cb) := by have := KBbb.out.cell 0; rwa [World.cell?_alloc_lt _ _ _ (KLbb.out)] at this
    have kbb1 : w8.cell? ⟨w6.heap.size, 1, none⟩ = some (.string (resE R2)) := by have := KBbb.out.cell 1; rwa [World.cell?_alloc_lt _ _ _ (KLbb.out)] at this
    have kbbl : w6.heap.size < w8.heap.size := KLbb.out
    have kbc0 : w8.cell? ⟨w7.heap.size, 0, none⟩ = some (.slice Ac nc cc) := by have := KBbc.out.cell 0; rwa [World.cell?_alloc_lt _ _ _ (KLbc.out)] at this
    have kbc1 : w8.cell? ⟨w7.heap.size, 1, none⟩ = some (.string (resE R3)) := by have := KBbc.out.cell 1; rwa [World.cell?_alloc_lt _ _ _ (KLbc.out)] at this
    have kbcl : w7.heap.size < w8.heap.size := KLbc.out
    go_wp2_with fail
    refine HC.out.mono ?_
    rintro e w9 ⟨R5, hk, hb, Ae, ne, ce, rfl, ho⟩
    clear kbt0 kbt1 kbtl kbu0 kbu1 kbul kbo0 kbo1 kbol kbw0 kbw1 kbwl kba0 kba1 kbal kbb0 kbb1 kbbl kbc0 kbc1 kbcl
    have KBbt := Lib.hid (KBbt.out.below hb KBbt.out.lt)
    have KBbu := Lib.hid (KBbu.out.below hb KBbu.out.lt)
    have KBbo := Lib.hid (KBbo.out.below hb KBbo.out.lt)
    have KBbw := Lib.hid (KBbw.out.below hb KBbw.out.lt)
    have KBba := Lib.hid (KBba.out.below hb KBba.out.lt)
    have KBbb := Lib.hid (KBbb.out.below hb KBbb.out.lt)
    have KBbc := Lib.hid (KBbc.out.below hb KBbc.out.lt)
    have KBbd := Lib.hid (KBbd.out.below hb KBbd.out.lt)
    have HRt := Lib.hid (own_below0 HRt.out hb)
    have HRu := Lib.hid (own_below0 HRu.out hb)
    have HRo := Lib.hid (own_below0 HRo.out hb)
    have HRw := Lib.hid (own_below0 HRw.out hb)
    have HRa := Lib.hid (own_below0 HRa.out hb)
    have HRb := Lib.hid (own_below0 HRb.out hb)
    have HRc := Lib.hid (own_below0 HRc.out hb)
    have HRd := Lib.hid (own_below0 HRd.out hb)
    have HB := Lib.hid (HB.out.trans (hb.mono HB.out.size))
    have HKe := Lib.hid hk
    have HRe := Lib.hid ho
    have HZe := Lib.hid hk.szs
    have hne : ne ≤ 60 := HZe.out.n HRe.out
    clear hb ho HC hk
    have KLbt : Hid (w1.heap.size < w9.heap.size) := KBbt.out.lt
    have KLbu : Hid ((w1.heap.size + 1) < w9.heap.size) := KBbu.out.lt
    have KLbo : Hid (w2.heap.size < w9.heap.size) := KBbo.out.lt
    have KLbw : Hid (w3.heap.size < w9.heap.size) := KBbw.out.lt
    have KLba : Hid (w5.heap.size < w9.heap.size) := KBba.out.lt
    have KLbb : Hid (w6.heap.size < w9.heap.size) := KBbb.out.lt
    have KLbc : Hid (w7.heap.size < w9.heap.size) := KBbc.out.lt
    have KLbd : Hid (w8.heap.size < w9.heap.size) := KBbd.out.lt
    have KBbt := Lib.hid (KBbt.out.alloc (.cells #[.slice Ae ne ce, .string (resE R5)] 25))
    have KBbu := Lib.hid (KBbu.out.alloc (.cells #[.slice Ae ne ce, .string (resE R5)] 25))
    have KBbo := Lib.hid (KBbo.out.alloc (.cells #[.slice Ae ne ce, .string (resE R5)] 25))
    have KBbw := Lib.hid (KBbw.out.alloc (.cells #[.slice Ae ne ce, .string (resE R5)] 25))
    have KBba := Lib.hid (KBba.out.alloc (.cells #[.slice Ae ne ce, .string (resE R5)] 25))
    have KBbb := Lib.hid (KBbb.out.alloc (.cells #[.slice Ae ne ce, .string (resE R5)] 25))
    have KBbc := Lib.hid (KBbc.out.alloc (.cells #[.slice Ae ne ce, .string (resE R5)] 25))
    have KBbd := Lib.hid (KBbd.out.alloc (.cells #[.slice Ae ne ce, .string (resE R5)] 25))
    have HRt := Lib.hid (HRt.out.alloc (.cells #[.slice Ae ne ce, .string (resE R5)] 25))
    have HRu := Lib.hid (HRu.out.alloc (.cells #[.slice Ae ne ce, .string (resE R5)] 25))
    have HRo := Lib.hid (HRo.out.alloc (.cells #[.slice Ae ne ce, .string (resE R5)] 25))
    have HRw := Lib.hid (HRw.out.alloc (.cells #[.slice Ae ne ce, .string (resE R5)] 25))
    have HRa := Lib.hid (HRa.out.alloc (.cells #[.slice Ae ne ce, .string (resE R5)] 25))
    have HRb := Lib.hid (HRb.out.alloc (.cells #[.slice Ae ne ce, .string (resE R5)] 25))
    have HRc := Lib.hid (HRc.out.alloc (.cells #[.slice Ae ne ce, .string (resE R5)] 25))
    have HRd := Lib.hid (HRd.out.alloc (.cells #[.slice Ae ne ce, .string (resE R5)] 25))
    have HRe := Lib.hid (HRe.out.alloc (.cells #[.slice Ae ne ce, .string (resE R5)] 25))
    have KBbe := Lib.hid (Blk.new w9 25 #[.slice Ae ne ce, .string (resE R5)])
    have HB := Lib.hid (HB.out.alloc HB.out.size (.cells #[.slice Ae ne ce, .string (resE R5)] 25))
    have HC := Lib.hid (implTurned_any At nt ct zt et ((w9.alloc (.cells #[.slice Ae ne ce, .string (resE R5)] 25))) (RS.of_own HRt.out) (by omega) HZt.out.big.1 HZt.out.big.2)
    have kbt0 : w9.cell? ⟨w1.heap.size, 0, none⟩ = some (.slice At nt ct) := by have := KBbt.out.cell 0; rwa [World.cell?_alloc_lt _ _ _ (KLbt.out)] at this
    have kbt1 : w9.cell? ⟨w1.heap.size, 1, none⟩ = some (.string et) := by have := KBbt.out.cell 1; rwa [World.cell?_alloc_lt _ _ _ (KLbt.out)] at this
    have kbtl : w1.heap.size < w9.heap.size := KLbt.out
    have kbu0 : w9.cell? ⟨(w1.heap.size + 1), 0, none⟩ = some (.slice Au nu cu) := by have := KBbu.out.cell 0; rwa [World.cell?_alloc_lt _ _ _ (KLbu.out)] at this
    have kbu1 : w9.cell? ⟨(w1.heap.size + 1), 1, none⟩ = some (.string eu) := by have := KBbu.out.cell 1; rwa [World.cell?_alloc_lt _ _ _ (KLbu.out)] at this
    have kbul : (w1.heap.size + 1) < w9.heap.size := KLbu.out
    have kbo0 : w9.cell? ⟨w2.heap.size, 0, none⟩ = some (.slice Ao no co) := by have := KBbo.out.cell 0; rwa [World.cell?_alloc_lt _ _ _ (KLbo.out)] at this
    have kbo1 : w9.cell? ⟨w2.heap.size, 1, none⟩ = some (.string (resE R)) := by have := KBbo.out.cell 1; rwa [World.cell?_alloc_lt _ _ _ (KLbo.out)] at this
    have kbol : w2.heap.size < w9.heap.size := KLbo.out
    have kbw0 : w9.cell? ⟨w3.heap.size, 0, none⟩ = some (.slice Aw nw cw) := by have := KBbw.out.cell 0; rwa [World.cell?_alloc_lt _ _ _ (KLbw.out)] at this
    have kbw1 : w9.cell? ⟨w3.heap.size, 1, none⟩ = some (.string (resE R)) := by have := KBbw.out.cell 1; rwa [World.cell?_alloc_lt _ _ _ (KLbw.out)] at this
    have kbwl : w3.heap.size < w9.heap.size := KLbw.out
    have kba0 : w9.cell? ⟨w5.heap.size, 0, none⟩ = some (.slice Aa na ca) := by have := KBba.out.cell 0; rwa [World.cell?_alloc_lt _ _ _ (KLba.out)] at this
    have kba1 : w9.cell? ⟨w5.heap.size, 1, none⟩ = some (.string (resE R1)) := by have := KBba.out.cell 1; rwa [World.cell?_alloc_lt _ _ _ (KLba.out)] at this
    have kbal : w5.heap.size < w9.heap.size := KLba.out
    have kbb0 : w9.cell? ⟨w6.heap.size, 0, none⟩ = some (.slice Ab nb cb) := by have := KBbb.out.cell 0; rwa [World.cell?_alloc_lt _ _ _ (KLbb.out)] at this
    have kbb1 : w9.cell? ⟨w6.heap.size, 1, none⟩ = some (.string (resE R2)) := by have := KBbb.out.cell 1; rwa [World.cell?_alloc_lt _ _ _ (KLbb.out)] at this
    have kbbl : w6.heap.size < w9.heap.size := KLbb.out
    have kbc0 : w9.cell? ⟨w7.heap.size, 0, none⟩ = some (.slice Ac nc cc) := by have := KBbc.out.cell 0; rwa [World.cell?_alloc_lt _ _ _ (KLbc.out)] at this
    have kbc1 : w9.cell? ⟨w7.heap.size, 1, none⟩ = some (.string (resE R3)) := by have := KBbc.out.cell 1; rwa [World.cell?_alloc_lt _ _ _ (KLbc.out)] at this
    have kbcl : w7.heap.size < w9.heap.size := KLbc.out
    have kbd0 : w9.cell? ⟨w8.heap.size, 0, none⟩ = some (.slice Ad nd cd) := by have := KBbd.out.cell 0; rwa [World.cell?_alloc_lt _ _ _ (KLbd.out)] at this
    have kbd1 : w9.cell? ⟨w8.heap.size, 1, none⟩ = some (.string (resE R4)) := by have := KBbd.out.cell 1; rwa [World.cell?_alloc_lt _ _ _ (KLbd.out)] at this
    have kbdl : w8.heap.size < w9.heap.size := KLbd.out
    go_wp2_with fail
    refine HC.out.mono ?_
    rintro e w10 ⟨R6, hk, hb, Af, nf, cf, rfl, ho⟩
    clear kbt0 kbt1 kbtl kbu0 kbu1 kbul kbo0 kbo1 kbol kbw0 kbw1 kbwl kba0 kba1 kbal kbb0 kbb1 kbbl kbc0 kbc1 kbcl kbd0 kbd1 kbdl
    have KBbt := Lib.hid (KBbt.out.below hb KBbt.out.lt)
    have KBbu := Lib.hid (KBbu.out.below hb KBbu.out.lt)
    have KBbo := Lib.hid (KBbo.out.below hb KBbo.out.lt)
    have KBbw := Lib.hid (KBbw.out.below hb KBbw.out.lt)
    have KBba := Lib.hid (KBba.out.below hb KBba.out.lt)
    have KBbb := Lib.hid (KBbb.out.below hb KBbb.out.lt)
    have KBbc := Lib.hid (KBbc.out.below hb KBbc.out.lt)
    have KBbd := Lib.hid (KBbd.out.below hb KBbd.out.lt)
    have KBbe := Lib.hid (KBbe.out.below hb KBbe.out.lt)
    have HRt := Lib.hid (own_below0 HRt.out hb)
    have HRu := Lib.hid (own_below0 HRu.out hb)
    have HRo := Lib.hid (own_below0 HRo.out hb)
    have HRw := Lib.hid (own_below0 HRw.out hb)
    have HRa := Lib.hid (own_below0 HRa.out hb)
    have HRb := Lib.hid (own_below0 HRb.out hb)
    have HRc := Lib.hid (own_below0 HRc.out hb)
    have HRd := Lib.hid (own_below0 HRd.out hb)
    have HRe := Lib.hid (own_below0 HRe.out hb)
    have HB := Lib.hid (HB.out.trans (hb.mono HB.out.size))
    have HKf := Lib.hid hk
    have HRf := Lib.hid ho
    have HZf := Lib.hid hk.szs
    have hnf : nf ≤ 60 := HZf.out.n HRf.out
    clear hb ho HC hk
    have KLbt : Hid (w1.heap.size < w10.heap.size) := KBbt.out.lt
    have KLbu : Hid ((w1.heap.size + 1) < w10.heap.size) := KBbu.out.lt
    have KLbo : Hid (w2.heap.size < w10.heap.size) := KBbo.out.lt
    have KLbw : Hid (w3.heap.size < w10.heap.size) := KBbw.out.lt
    have KLba : Hid (w5.heap.size < w10.heap.size) := KBba.out.lt
    have KLbb : Hid (w6.heap.size < w10.heap.size) := KBbb.out.lt
    have KLbc : Hid (w7.heap.size < w10.heap.size) := KBbc.out.lt
    have KLbd : Hid (w8.heap.size < w10.heap.size) := KBbd.out.lt
    have KLbe : Hid (w9.heap.size < w10.heap.size) := KBbe.out.lt
    have KBbt := Lib.hid (KBbt.out.alloc (.cells #[.slice Af nf cf, .string (resE R6)] 25))
    have KBbu := Lib.hid (KBbu.out.alloc (.cells #[.slice Af nf cf, .string (resE R6)] 25))
    have KBbo := Lib.hid (KBbo.out.alloc (.cells #[.slice Af nf cf, .string (resE R6)] 25))
    have KBbw := Lib.hid (KBbw.out.alloc (.cells #[.slice Af nf cf, .string (resE R6)] 25))
    have KBba := Lib.hid (KBba.out.alloc (.cells #[.slice Af nf cf, .string (resE R6)] 25))
    have KBbb := Lib.hid (KBbb.out.alloc (.cells #[.slice Af nf cf, .string (resE R6)] 25))
    have KBbc := Lib.hid (KBbc.out.alloc (.cells #[.slice Af nf cf, .string (resE R6)] 25))
    have KBbd := Lib.hid (KBbd.out.alloc (.cells #[.slice Af nf cf, .string (resE R6)] 25))
    have KBbe := Lib.hid (KBbe.out.alloc (.cells #[.slice Af nf cf, .string (resE R6)] 25))
    have HRt := Lib.hid (HRt.out.alloc (.cells #[.slice Af nf cf, .string (resE R6)] 25))
    have HRu := Lib.hid (HRu.out.alloc (.cells #[.slice Af nf cf, .string (resE R6)] 25))
    have HRo := Lib.hid (HRo.out.alloc (.cells #[.slice Af nf cf, .string (resE R6)] 25))
    have HRw := Lib.hid (HRw.out.alloc (.cells #[.slice Af nf cf, .string (resE R6)] 25))
    have HRa := Lib.hid (HRa.out.alloc (.cells #[.slice Af nf cf, .string (resE R6)] 25))
    have HRb := Lib.hid (HRb.out.alloc (.cells #[.slice Af nf cf, .string (resE R6)] 25))
    have HRc := Lib.hid (HRc.out.alloc (.cells #[.slice Af nf cf, .string (resE R6)] 25))
    have HRd := Lib.hid (HRd.out.alloc (.cells #[.slice Af nf cf, .string (resE R6)] 25))
    have HRe := Lib.hid (HRe.out.alloc (.cells #[.slice Af nf cf, .string (resE R6)] 25))
    have HRf := Lib.hid (HRf.out.alloc (.cells #[.slice Af nf cf, .string (resE R6)] 25))
    have KBbf := Lib.hid (Blk.new w10 25 #[.slice Af nf cf, .string (resE R6)])
    have HB := Lib.hid (HB.out.alloc HB.out.size (.cells #[.slice Af nf cf, .string (resE R6)] 25))
    have HC := Lib.hid (implTimes_any Ae Af ne nf ce cf (resL R5) (resL R6) (resE R5) (resE R6) ((w10.alloc (.cells #[.slice Af nf cf, .string (resE R6)] 25))) (RS.of_own HRe.out) (RS.of_own HRf.out) (by omega) (by omega) HZe.out.big.1 HZf.out.big.1 HZe.out.big.2 HZf.out.big.2)
    have kbt0 : w10.cell? ⟨w1.heap.size, 0, none⟩ = some (.slice At nt ct) := by have := KBbt.out.cell 0; rwa [World.cell?_alloc_lt _ _ _ (KLbt.out)] at this
    have kbt1 : w10.cell? ⟨w1.heap.size, 1, none⟩ = some (.string et) := by have := KBbt.out.cell 1; rwa [World.cell?_alloc_lt _ _ _ (KLbt.out)] at this
    have kbtl : w1.heap.size < w10.heap.size := KLbt.out
    have kbu0 : w10.cell? ⟨(w1.heap.size + 1), 0, none⟩ = some (.slice Au nu cu) := by have := KBbu.out.cell 0; rwa [World.cell?_alloc_lt _ _ _ (KLbu.out)] at this
    have kbu1 : w10.cell? ⟨(w1.heap.size + 1), 1, none⟩ = some (.string eu) := by have := KBbu.out.cell 1; rwa [World.cell?_alloc_lt _ _ _ (KLbu.out)] at this
    have kbul : (w1.heap.size + 1) < w10.heap.size := KLbu.out
    have kbo0 : w10.cell? ⟨w2.heap.size, 0, none⟩ = some (.slice Ao no co) := by have := KBbo.out.cell 0; rwa [World.cell?_alloc_lt _ _ _ (KLbo.out)] at this
    have kbo1 : w10.cell? ⟨w2.heap.size, 1, none⟩ = some (.string (resE R)) := by have := KBbo.out.cell 1; rwa [World.cell?_alloc_lt _ _ _ (KLbo.out)] at this
    have kbol : w2.heap.size < w10.heap.size := KLbo.out
    have kbw0 : w10.cell? ⟨w3.heap.size, 0, none⟩ = some (.slice Aw nw cw) := by have := KBbw.out.cell 0; rwa [World.cell?_alloc_lt _ _ _ (KLbw.out)] at this
    have kbw1 : w10.cell? ⟨w3.heap.size, 1, none⟩ = some (.string (resE R)) := by have := KBbw.out.cell 1; rwa [World.cell?_alloc_lt _ _ _ (KLbw.out)] at this
    have kbwl : w3.heap.size < w10.heap.size := KLbw.out
    have kba0 : w10.cell? ⟨w5.heap.size, 0, none⟩ = some (.slice Aa na ca) := by have := KBba.out.cell 0; rwa [World.cell?_alloc_lt _ _ _ (KLba.out)] at this
    have kba1 : w10.cell? ⟨w5.heap.size, 1, none⟩ = some (.string (resE R1)) := by have := KBba.out.cell 1; rwa [World.cell?_alloc_lt _ _ _ (KLba.out)] at this
    have kbal : w5.heap.size < w10.heap.size := KLba.out
    have kbb0 : w10.cell? ⟨w6.heap.size, 0, none⟩ = some (.slice Ab nb cb) := by have := KBbb.out.cell 0; rwa [World.cell?_alloc_lt _ _ _ (KLbb.out)] at this
    have kbb1 : w10.cell? ⟨w6.heap.size, 1, none⟩ = some (.string (resE R2)) := by have := KBbb.out.cell 1; rwa [World.cell?_alloc_lt _ _ _ (KLbb.out)] at this
    have kbbl : w6.heap.size < w10.heap.size := KLbb.out
    have kbc0 : w10.cell? ⟨w7.heap.size, 0, none⟩ = some (.slice Ac nc cc) := by have := KBbc.out.cell 0; rwa [World.cell?_alloc_lt _ _ _ (KLbc.out)] at this
    have kbc1 : w10.cell? ⟨w7.heap.size, 1, none⟩ = some (.string (resE R3)) := by have := KBbc.out.cell 1; rwa [World.cell?_alloc_lt _ _ _ (KLbc.out)] at this
    have kbcl : w7.heap.size < w10.heap.size := KLbc.out
    have kbd0 : w10.cell? ⟨w8.heap.size, 0, none⟩ = some (.slice Ad nd cd) := by have := KBbd.out.cell 0; rwa [World.cell?_alloc_lt _ _ _ (KLbd.out)] at this
    have kbd1 : w10.cell? ⟨w8.heap.size, 1, none⟩ = some (.string (resE R4)) := by have := KBbd.out.cell 1; rwa [World.cell?_alloc_lt _ _ _ (KLbd.out)] at this
    have kbdl : w8.heap.size < w10.heap.size := KLbd.out
    have kbe0 : w10.cell? ⟨w9.heap.size, 0, none⟩ = some (.slice Ae ne ce) := by have := KBbe.out.cell 0; rwa [World.cell?_alloc_lt _ _ _ (KLbe.out)] at this
    have kbe1 : w10.cell? ⟨w9.heap.size, 1, none⟩ = some (.string (resE R5)) := by have := KBbe.out.cell 1; rwa [World.cell?_alloc_lt _ _ _ (KLbe.out)] at this
    have kbel : w9.heap.size < w10.heap.size := KLbe.out
    go_wp2_with fail
    refine HC.out.mono ?_
    rintro e w11 ⟨R7, hk, hb, Ag, ng, cg, rfl, ho⟩
    clear kbt0 kbt1 kbtl kbu0 kbu1 kbul kbo0 kbo1 kbol kbw0 kbw1 kbwl kba0 kba1 kbal kbb0 kbb1 kbbl kbc0 kbc1 kbcl kbd0 kbd1 kbdl kbe0 kbe1 kbel
    have KBbt := Lib.hid (KBbt.out.below hb KBbt.out.lt)
    have KBbu := Lib.hid (KBbu.out.below hb KBbu.out.lt)
    have KBbo := Lib.hid (KBbo.out.below hb KBbo.out.lt)
    have KBbw := Lib.hid (KBbw.out.below hb KBbw.out.lt)
    have KBba := Lib.hid (KBba.out.below hb KBba.out.lt)
    have KBbb := Lib.hid (KBbb.out.below hb KBbb.out.lt)
    have KBbc := Lib.hid (KBbc.out.below hb KBbc.out.lt)
    have KBbd := Lib.hid (KBbd.out.below hb KBbd.out.lt)
    have KBbe := Lib.hid (KBbe.out.below hb KBbe.out.lt)
    have KBbf := Lib.hid (KBbf.out.below hb KBbf.out.lt)
    have HRt := Lib.hid (own_below0 HRt.out hb)
    have HRu := Lib.hid (own_below0 HRu.out hb)
    have HRo := Lib.hid (own_below0 HRo.out hb)
    have HRw := Lib.hid (own_below0 HRw.out hb)
    have HRa := Lib.hid (own_below0 HRa.out hb)
    have HRb := Lib.hid (own_below0 HRb.out hb)
    have HRc := Lib.hid (own_below0 HRc.out hb)
    have HRd := Lib.hid (own_below0 HRd.out hb)
    have HRe := Lib.hid (own_below0 HRe.out hb)
    have HRf := Lib.hid (own_below0 HRf.out hb)
    have HB := Lib.hid (HB.out.trans (hb.mono HB.out.size))
    have HKg := Lib.hid hk
    have HRg := Lib.hid ho
    have HZg := Lib.hid hk.szs
    have hng : ng ≤ 60 := HZg.out.n HRg.out
    clear hb ho HC hk
    have KLbt : Hid (w1.heap.size < w11.heap.size) := KBbt.out.lt
    have KLbu : Hid ((w1.heap.size + 1) < w11.heap.size) := KBbu.out.lt
    have KLbo : Hid (w2.heap.size < w11.heap.size) := KBbo.out.lt
    have KLbw : Hid (w3.heap.size < w11.heap.size) := KBbw.out.lt
    have KLba : Hid (w5.heap.size < w11.heap.size) := KBba.out.lt
    have KLbb : Hid (w6.heap.size < w11.heap.size) := KBbb.out.lt
    have KLbc : Hid (w7.heap.size < w11.heap.size) := KBbc.out.lt
    have KLbd : Hid (w8.heap.size < w11.heap.size) := KBbd.out.lt
    have KLbe : Hid (w9.heap.size < w11.heap.size) := KBbe.out.lt
    have KLbf : Hid (w10.heap.size < w11.heap.size) := KBbf.out.lt
    have KBbt := Lib.hid (KBbt.out.alloc (.cells #[.slice Ag ng cg, .string (resE R7)] 25))
    have KBbu := Lib.hid (KBbu.out.alloc (.cells #[.slice Ag ng cg, .string (resE R7)] 25))
    have KBbo := Lib.hid (KBbo.out.alloc (.cells #[.slice Ag ng cg, .string (resE R7)] 25))
    have KBbw := Lib.hid (KBbw.out.alloc (.cells #[.slice Ag ng cg, .string (resE R7)] 25))
    have KBba := Lib.hid (KBba.out.alloc (.cells #[.slice Ag ng cg, .string (resE R7)] 25))
    have KBbb := Lib.hid (KBbb.out.alloc (.cells #[.slice Ag ng cg, .string (resE R7)] 25))
    have KBbc := Lib.hid (KBbc.out.alloc (.cells #[.slice Ag ng cg, .string (resE R7)] 25))
    have KBbd := Lib.hid (KBbd.out.alloc (.cells #[.slice Ag ng cg, .string (resE R7)] 25))
    have KBbe := Lib.hid (KBbe.out.alloc (.cells #[.slice Ag ng cg, .string (resE R7)] 25))
    have KBbf := Lib.hid (KBbf.out.alloc (.cells #[.slice Ag ng cg, .string (resE R7)] 25))
    have HRt := Lib.hid (HRt.out.alloc (.cells #[.slice Ag ng cg, .string (resE R7)] 25))
    have HRu := Lib.hid (HRu.out.alloc (.cells #[.slice Ag ng cg, .string (resE R7)] 25))
    have HRo := Lib.hid (HRo.out.alloc (.cells #[.slice Ag ng cg, .string (resE R7)] 25))
    have HRw := Lib.hid (HRw.out.alloc (.cells #[.slice Ag ng cg, .string (resE R7)] 25))
    have HRa := Lib.hid (HRa.out.alloc (.cells #[.slice Ag ng cg, .string (resE R7)] 25))
    have HRb := Lib.hid (HRb.out.alloc (.cells #[.slice Ag ng cg, .string (resE R7)] 25))
    have HRc := Lib.hid (HRc.out.alloc (.cells #[.slice Ag ng cg, .string (resE R7)] 25))
    have HRd := Lib.hid (HRd.out.alloc (.cells #[.slice Ag ng cg, .string (resE R7)] 25))
    have HRe := Lib.hid (HRe.out.alloc (.cells #[.slice Ag ng cg, .string (resE R7)] 25))
    have HRf := Lib.hid (HRf.out.alloc (.cells #[.slice Ag ng cg, .string (resE R7)] 25))
    have HRg := Lib.hid (HRg.out.alloc (.cells #[.slice Ag ng cg, .string (resE R7)] 25))
    have KBbg := Lib.hid (Blk.new w11 25 #[.slice Ag ng cg, .string (resE R7)])
    have HB := Lib.hid (HB.out.alloc HB.out.size (.cells #[.slice Ag ng cg, .string (resE R7)] 25))
    cases s1 : R1.isSome with
    | false =>
      cases s4 : R4.isSome with
      | false =>
        go_wp2
        go_ret
        exact ⟨rfl, HB.out⟩
      | true =>
        cases s5 : R5.isSome with
        | false =>
          go_wp2
          go_ret
          exact ⟨rfl, HB.out⟩
        | true =>
          cases s6 : R6.isSome with
          | false =>
            go_wp2
            go_ret
            exact ⟨rfl, HB.out⟩
          | true =>
            cases s7 : R7.isSome with
            | false =>
              go_wp2
              go_ret
              exact ⟨rfl, HB.out⟩
            | true =>
              have hsm : resL R4 = resL R7 ∧ resE R4 = resE R7 := turn_times_law HKo.out s0 HKd.out s4 HKe.out s5 HKf.out s6 HKg.out s7
              have hsd : (decide (resL R4 = resL R7) && decide (resE R4 = resE R7)) = true := by rw [decide_eq_true hsm.1, decide_eq_true hsm.2]; rfl
              have hc := sameTree2_any Ad Ag nd ng cd cg (resL R4) (resL R7) (resE R4) (resE R7) ((w11.alloc (.cells #[.slice Ag ng cg, .string (resE R7)] 25))) (RS.of_own HRd.out) (RS.of_own HRg.out) (by omega)
              rw [hsd] at hc
              have HC := Lib.hid hc
              clear hc hsd hsm
              have kbt0 : w11.cell? ⟨w1.heap.size, 0, none⟩ = some (.slice At nt ct) := by have := KBbt.out.cell 0; rwa [World.cell?_alloc_lt _ _ _ (KLbt.out)] at this
              have kbt1 : w11.cell? ⟨w1.heap.size, 1, none⟩ = some (.string et) := by have := KBbt.out.cell 1; rwa [World.cell?_alloc_lt _ _ _ (KLbt.out)] at this
              have kbtl : w1.heap.size < w11.heap.size := KLbt.out
              have kbu0 : w11.cell? ⟨(w1.heap.size + 1), 0, none⟩ = some (.slice Au nu cu) := by have := KBbu.out.cell 0; rwa [World.cell?_alloc_lt _ _ _ (KLbu.out)] at this
              have kbu1 : w11.cell? ⟨(w1.heap.size + 1), 1, none⟩ = some (.string eu) := by have := KBbu.out.cell 1; rwa [World.cell?_alloc_lt _ _ _ (KLbu.out)] at this
              have kbul : (w1.heap.size + 1) < w11.heap.size := KLbu.out
              have kbo0 : w11.cell? ⟨w2.heap.size, 0, none⟩ = some (.slice Ao no co) := by have := KBbo.out.cell 0; rwa [World.cell?_alloc_lt _ _ _ (KLbo.out)] at this
              have kbo1 : w11.cell? ⟨w2.heap.size, 1, none⟩ = some (.string (resE R)) := by have := KBbo.out.cell 1; rwa [World.cell?_alloc_lt _ _ _ (KLbo.out)] at this
              have kbol : w2.heap.size < w11.heap.size := KLbo.out
              have kbw0 : w11.cell? ⟨w3.heap.size, 0, none⟩ = some (.slice Aw nw cw) := by have := KBbw.out.cell 0; rwa [World.cell?_alloc_lt _ _ _ (KLbw.out)] at this
              have kbw1 : w11.cell? ⟨w3.heap.size, 1, none⟩ = some (.string (resE R)) := by have := KBbw.out.cell 1; rwa [World.cell?_alloc_lt _ _ _ (KLbw.out)] at this
              have kbwl : w3.heap.size < w11.heap.size := KLbw.out
              have kba0 : w11.cell? ⟨w5.heap.size, 0, none⟩ = some (.slice Aa na ca) := by have := KBba.out.cell 0; rwa [World.cell?_alloc_lt _ _ _ (KLba.out)] at this
              have kba1 : w11.cell? ⟨w5.heap.size, 1, none⟩ = some (.string (resE R1)) := by have := KBba.out.cell 1; rwa [World.cell?_alloc_lt _ _ _ (KLba.out)] at this
              have kbal : w5.heap.size < w11.heap.size := KLba.out
              have kbb0 : w11.cell? ⟨w6.heap.size, 0, none⟩ = some (.slice Ab nb cb) := by have := KBbb.out.cell 0; rwa [World.cell?_alloc_lt _ _ _ (KLbb.out)] at this
              have kbb1 : w11.cell? ⟨w6.heap.size, 1, none⟩ = some (.string (resE R2)) := by have := KBbb.out.cell 1; rwa [World.cell?_alloc_lt _ _ _ (KLbb.out)] at this
              have kbbl : w6.heap.size < w11.heap.size := KLbb.out
              have kbc0 : w11.cell? ⟨w7.heap.size, 0, none⟩ = some (.slice Ac nc cc) := by have := KBbc.out.cell 0; rwa [World.cell?_alloc_lt _ _ _ (KLbc.out)] at this
              have kbc1 : w11.cell? ⟨w7.heap.size, 1, none⟩ = some (.string (resE R3)) := by have := KBbc.out.cell 1; rwa [World.cell?_alloc_lt _ _ _ (KLbc.out)] at this
              have kbcl : w7.heap.size < w11.heap.size := KLbc.out
              have kbd0 : w11.cell? ⟨w8.heap.size, 0, none⟩ = some (.slice Ad nd cd) := by have := KBbd.out.cell 0; rwa [World.cell?_alloc_lt _ _ _ (KLbd.out)] at this
              have kbd1 : w11.cell? ⟨w8.heap.size, 1, none⟩ = some (.string (resE R4)) := by have := KBbd.out.cell 1; rwa [World.cell?_alloc_lt _ _ _ (KLbd.out)] at this
              have kbdl : w8.heap.size < w11.heap.size := KLbd.out
              have kbe0 : w11.cell? ⟨w9.heap.size, 0, none⟩ = some (.slice Ae ne ce) := by have := KBbe.out.cell 0; rwa [World.cell?_alloc_lt _ _ _ (KLbe.out)] at this
              have kbe1 : w11.cell? ⟨w9.heap.size, 1, none⟩ = some (.string (resE R5)) := by have := KBbe.out.cell 1; rwa [World.cell?_alloc_lt _ _ _ (KLbe.out)] at this
              have kbel : w9.heap.size < w11.heap.size := KLbe.out
              have kbf0 : w11.cell? ⟨w10.heap.size, 0, none⟩ = some (.slice Af nf cf) := by have := KBbf.out.cell 0; rwa [World.cell?_alloc_lt _ _ _ (KLbf.out)] at this
              have kbf1 : w11.cell? ⟨w10.heap.size, 1, none⟩ = some (.string (resE R6)) := by have := KBbf.out.cell 1; rwa [World.cell?_alloc_lt _ _ _ (KLbf.out)] at this
              have kbfl : w10.heap.size < w11.heap.size := KLbf.out
              go_wp2_with fail
              refine HC.out.mono ?_
              rintro e w12 ⟨rfl, hb⟩
              clear kbt0 kbt1 kbtl kbu0 kbu1 kbul kbo0 kbo1 kbol kbw0 kbw1 kbwl kba0 kba1 kbal kbb0 kbb1 kbbl kbc0 kbc1 kbcl kbd0 kbd1 kbdl kbe0 kbe1 kbel kbf0 kbf1 kbfl
              have KBbt := Lib.hid (KBbt.out.below hb KBbt.out.lt)
              have KBbu := Lib.hid (KBbu.out.below hb KBbu.out.lt)
              have KBbo := Lib.hid (KBbo.out.below hb KBbo.out.lt)
              have KBbw := Lib.hid (KBbw.out.below hb KBbw.out.lt)
              have KBba := Lib.hid (KBba.out.below hb KBba.out.lt)
              have KBbb := Lib.hid (KBbb.out.below hb KBbb.out.lt)
              have KBbc := Lib.hid (KBbc.out.below hb KBbc.out.lt)
              have KBbd := Lib.hid (KBbd.out.below hb KBbd.out.lt)
              have KBbe := Lib.hid (KBbe.out.below hb KBbe.out.lt)
              have KBbf := Lib.hid (KBbf.out.below hb KBbf.out.lt)
              have KBbg := Lib.hid (KBbg.out.below hb KBbg.out.lt)
              have HRt := Lib.hid (own_below0 HRt.out hb)
              have HRu := Lib.hid (own_below0 HRu.out hb)
              have HRo := Lib.hid (own_below0 HRo.out hb)
              have HRw := Lib.hid (own_below0 HRw.out hb)
              have HRa := Lib.hid (own_below0 HRa.out hb)
              have HRb := Lib.hid (own_below0 HRb.out hb)
              have HRc := Lib.hid (own_below0 HRc.out hb)
              have HRd := Lib.hid (own_below0 HRd.out hb)
              have HRe := Lib.hid (own_below0 HRe.out hb)
              have HRf := Lib.hid (own_below0 HRf.out hb)
              have HRg := Lib.hid (own_below0 HRg.out hb)
              have HB := Lib.hid (HB.out.trans (hb.mono HB.out.size))
              clear hb HC
              go_wp2
              go_ret
              exact ⟨rfl, HB.out⟩
    | true =>
      cases s2 : R2.isSome with
      | false =>
        cases s4 : R4.isSome with
        | false =>
          go_wp2
          go_ret
          exact ⟨rfl, HB.out⟩
        | true =>
          cases s5 : R5.isSome with
          | false =>
            go_wp2
            go_ret
            exact ⟨rfl, HB.out⟩
          | true =>
            cases s6 : R6.isSome with
            | false =>
              go_wp2
              go_ret
              exact ⟨rfl, HB.out⟩
            | true =>
              cases s7 : R7.isSome with
              | false =>
                go_wp2
                go_ret
                exact ⟨rfl, HB.out⟩
              | true =>
                have hsm : resL R4 = resL R7 ∧ resE R4 = resE R7 := turn_times_law HKo.out s0 HKd.out s4 HKe.out s5 HKf.out s6 HKg.out s7
                have hsd : (decide (resL R4 = resL R7) && decide (resE R4 = resE R7)) = true := by rw [decide_eq_true hsm.1, decide_eq_true hsm.2]; rfl
                have hc := sameTree2_any Ad Ag nd ng cd cg (resL R4) (resL R7) (resE R4) (resE R7) ((w11.alloc (.cells #[.slice Ag ng cg, .string (resE R7)] 25))) (RS.of_own HRd.out) (RS.of_own HRg.out) (by omega)
                rw [hsd] at hc
                have HC := Lib.hid hc
                clear hc hsd hsm
                have kbt0 : w11.cell? ⟨w1.heap.size, 0, none⟩ = some (.slice At nt ct) := by have := KBbt.out.cell 0; rwa [World.cell?_alloc_lt _ _ _ (KLbt.out)] at this
                have kbt1 : w11.cell? ⟨w1.heap.size, 1, none⟩ = some (.string et) := by have := KBbt.out.cell 1; rwa [World.cell?_alloc_lt _ _ _ (KLbt.out)] at this
                have kbtl : w1.heap.size < w11.heap.size := KLbt.out
                have kbu0 : w11.cell? ⟨(w1.heap.size + 1), 0, none⟩ = some (.slice Au nu cu) := by have := KBbu.out.cell 0; rwa [World.cell?_alloc_lt _ _ _ (KLbu.out)] at this
                have kbu1 : w11.cell? ⟨(w1.heap.size + 1), 1, none⟩ = some (.string eu) := by have := KBbu.out.cell 1; rwa [World.cell?_alloc_lt _ _ _ (KLbu.out)] at this
                have kbul : (w1.heap.size + 1) < w11.heap.size := KLbu.out
                have kbo0 : w11.cell? ⟨w2.heap.size, 0, none⟩ = some (.slice Ao no co) := by have := KBbo.out.cell 0; rwa [World.cell?_alloc_lt _ _ _ (KLbo.out)] at this
                have kbo1 : w11.cell? ⟨w2.heap.size, 1, none⟩ = some (.string (resE R)) := by have := KBbo.out.cell 1; rwa [World.cell?_alloc_lt _ _ _ (KLbo.out)] at this
                have kbol : w2.heap.size < w11.heap.size := KLbo.out
                have kbw0 : w11.cell? ⟨w3.heap.size, 0, none⟩ = some (.slice Aw nw cw) := by have := KBbw.out.cell 0; rwa [World.cell?_alloc_lt _ _ _ (KLbw.out)] at this
                have kbw1 : w11.cell? ⟨w3.heap.size, 1, none⟩ = some (.string (resE R)) := by have := KBbw.out.cell 1; rwa [World.cell?_alloc_lt _ _ _ (KLbw.out)] at this
                have kbwl : w3.heap.size < w11.heap.size := KLbw.out
                have kba0 : w11.cell? ⟨w5.heap.size, 0, none⟩ = some (.slice Aa na ca) := by have := KBba.out.cell 0; rwa [World.cell?_alloc_lt _ _ _ (KLba.out)] at this
                have kba1 : w11.cell? ⟨w5.heap.size, 1, none⟩ = some (.string (resE R1)) := by have := KBba.out.cell 1; rwa [World.cell?_alloc_lt _ _ _ (KLba.out)] at this
                have kbal : w5.heap.size < w11.heap.size := KLba.out
                have kbb0 : w11.cell? ⟨w6.heap.size, 0, none⟩ = some (.slice Ab nb cb) := by have := KBbb.out.cell 0; rwa [World.cell?_alloc_lt _ _ _ (KLbb.out)] at this
                have kbb1 : w11.cell? ⟨w6.heap.size, 1, none⟩ = some (.string (resE R2)) := by have := KBbb.out.cell 1; rwa [World.cell?_alloc_lt _ _ _ (KLbb.out)] at this
                have kbbl : w6.heap.size < w11.heap.size := KLbb.out
                have kbc0 : w11.cell? ⟨w7.heap.size, 0, none⟩ = some (.slice Ac nc cc) := by have := KBbc.out.cell 0; rwa [World.cell?_alloc_lt _ _ _ (KLbc.out)] at this
                have kbc1 : w11.cell? ⟨w7.heap.size, 1, none⟩ = some (.string (resE R3)) := by have := KBbc.out.cell 1; rwa [World.cell?_alloc_lt _ _ _ (KLbc.out)] at this
                have kbcl : w7.heap.size < w11.heap.size := KLbc.out
                have kbd0 : w11.cell? ⟨w8.heap.size, 0, none⟩ = some (.slice Ad nd cd) := by have := KBbd.out.cell 0; rwa [World.cell?_alloc_lt _ _ _ (KLbd.out)] at this
                have kbd1 : w11.cell? ⟨w8.heap.size, 1, none⟩ = some (.string (resE R4)) := by have := KBbd.out.cell 1; rwa [World.cell?_alloc_lt _ _ _ (KLbd.out)] at this
                have kbdl : w8.heap.size < w11.heap.size := KLbd.out
                have kbe0 : w11.cell? ⟨w9.heap.size, 0, none⟩ = some (.slice Ae ne ce) := by have := KBbe.out.cell 0; rwa [World.cell?_alloc_lt _ _ _ (KLbe.out)] at this
                have kbe1 : w11.cell? ⟨w9.heap.size, 1, none⟩ = some (.string (resE R5)) := by have := KBbe.out.cell 1; rwa [World.cell?_alloc_lt _ _ _ (KLbe.out)] at this
                have kbel : w9.heap.size < w11.heap.size := KLbe.out
                have kbf0 : w11.cell? ⟨w10.heap.size, 0, none⟩ = some (.slice Af nf cf) := by have := KBbf.out.cell 0; rwa [World.cell?_alloc_lt _ _ _ (KLbf.out)] at this
                have kbf1 : w11.cell? ⟨w10.heap.size, 1, none⟩ = some (.string (resE R6)) := by have := KBbf.out.cell 1; rwa [World.cell?_alloc_lt _ _ _ (KLbf.out)] at this
                have kbfl : w10.heap.size < w11.heap.size := KLbf.out
                go_wp2_with fail
                refine HC.out.mono ?_
                rintro e w12 ⟨rfl, hb⟩
                clear kbt0 kbt1 kbtl kbu0 kbu1 kbul kbo0 kbo1 kbol kbw0 kbw1 kbwl kba0 kba1 kbal kbb0 kbb1 kbbl kbc0 kbc1 kbcl kbd0 kbd1 kbdl kbe0 kbe1 kbel kbf0 kbf1 kbfl
                have KBbt := Lib.hid (KBbt.out.below hb KBbt.out.lt)
                have KBbu := Lib.hid (KBbu.out.below hb KBbu.out.lt)
                have KBbo := Lib.hid (KBbo.out.below hb KBbo.out.lt)
                have KBbw := Lib.hid (KBbw.out.below hb KBbw.out.lt)
                have KBba := Lib.hid (KBba.out.below hb KBba.out.lt)
                have KBbb := Lib.hid (KBbb.out.below hb KBbb.out.lt)
                have KBbc := Lib.hid (KBbc.out.below hb KBbc.out.lt)
                have KBbd := Lib.hid (KBbd.out.below hb KBbd.out.lt)
                have KBbe := Lib.hid (KBbe.out.below hb KBbe.out.lt)
                have KBbf := Lib.hid (KBbf.out.below hb KBbf.out.lt)
                have KBbg := Lib.hid (KBbg.out.below hb KBbg.out.lt)
                have HRt := Lib.hid (own_below0 HRt.out hb)
                have HRu := Lib.hid (own_below0 HRu.out hb)
                have HRo := Lib.hid (own_below0 HRo.out hb)
                have HRw := Lib.hid (own_below0 HRw.out hb)
                have HRa := Lib.hid (own_below0 HRa.out hb)
                have HRb := Lib.hid (own_below0 HRb.out hb)
                have HRc := Lib.hid (own_below0 HRc.out hb)
                have HRd := Lib.hid (own_below0 HRd.out hb)
                have HRe := Lib.hid (own_below0 HRe.out hb)
                have HRf := Lib.hid (own_below0 HRf.out hb)
                have HRg := Lib.hid (own_below0 HRg.out hb)
                have HB := Lib.hid (HB.out.trans (hb.mono HB.out.size))
                clear hb HC
                go_wp2
                go_ret
                exact ⟨rfl, HB.out⟩
      | true =>
        cases s3 : R3.isSome with
        | false =>
          cases s4 : R4.isSome with
          | false =>
            go_wp2
            go_ret
            exact ⟨rfl, HB.out⟩
          | true =>
            cases s5 : R5.isSome with
            | false =>
              go_wp2
              go_ret
              exact ⟨rfl, HB.out⟩
            | true =>
              cases s6 : R6.isSome with
              | false =>
                go_wp2
                go_ret
                exact ⟨rfl, HB.out⟩
              | true =>
                cases s7 : R7.isSome with
                | false =>
                  go_wp2
                  go_ret
                  exact ⟨rfl, HB.out⟩
                | true =>
                  have hsm : resL R4 = resL R7 ∧ resE R4 = resE R7 := turn_times_law HKo.out s0 HKd.out s4 HKe.out s5 HKf.out s6 HKg.out s7
                  have hsd : (decide (resL R4 = resL R7) && decide (resE R4 = resE R7)) = true := by rw [decide_eq_true hsm.1, decide_eq_true hsm.2]; rfl
                  have hc := sameTree2_any Ad Ag nd ng cd cg (resL R4) (resL R7) (resE R4) (resE R7) ((w11.alloc (.cells #[.slice Ag ng cg, .string (resE R7)] 25))) (RS.of_own HRd.out) (RS.of_own HRg.out) (by omega)
                  rw [hsd] at hc
                  have HC := Lib.hid hc
                  clear hc hsd hsm
                  have kbt0 : w11.cell? ⟨w1.heap.size, 0, none⟩ = some (.slice At nt ct) := by have := KBbt.out.cell 0; rwa [World.cell?_alloc_lt _ _ _ (KLbt.out)] at this
                  have kbt1 : w11.cell? ⟨w1.heap.size, 1, none⟩ = some (.string et) := by have := KBbt.out.cell 1; rwa [World.cell?_alloc_lt _ _ _ (KLbt.out)] at this
                  have kbtl : w1.heap.size < w11.heap.size := KLbt.out
                  have kbu0 : w11.cell? ⟨(w1.heap.size + 1), 0, none⟩ = some (.slice Au nu cu) := by have := KBbu.out.cell 0; rwa [World.cell?_alloc_lt _ _ _ (KLbu.out)] at this
                  have kbu1 : w11.cell? ⟨(w1.heap.size + 1), 1, none⟩ = some (.string eu) := by have := KBbu.out.cell 1; rwa [World.cell?_alloc_lt _ _ _ (KLbu.out)] at this
                  have kbul : (w1.heap.size + 1) < w11.heap.size := KLbu.out
                  have kbo0 : w11.cell? ⟨w2.heap.size, 0, none⟩ = some (.slice Ao no co) := by have := KBbo.out.cell 0; rwa [World.cell?_alloc_lt _ _ _ (KLbo.out)] at this
                  have kbo1 : w11.cell? ⟨w2.heap.size, 1, none⟩ = some (.string (resE R)) := by have := KBbo.out.cell 1; rwa [World.cell?_alloc_lt _ _ _ (KLbo.out)] at this
                  have kbol : w2.heap.size < w11.heap.size := KLbo.out
                  have kbw0 : w11.cell? ⟨w3.heap.size, 0, none⟩ = some (.slice Aw nw cw) := by have := KBbw.out.cell 0; rwa [World.cell?_alloc_lt _ _ _ (KLbw.out)] at this
                  have kbw1 : w11.cell? ⟨w3.heap.size, 1, none⟩ = some (.string (resE R)) := by have := KBbw.out.cell 1; rwa [World.cell?_alloc_lt _ _ _ (KLbw.out)] at this
                  have kbwl : w3.heap.size < w11.heap.size := KLbw.out
                  have kba0 : w11.cell? ⟨w5.heap.size, 0, none⟩ = some (.slice Aa na ca) := by have := KBba.out.cell 0; rwa [World.cell?_alloc_lt _ _ _ (KLba.out)] at this
                  have kba1 : w11.cell? ⟨w5.heap.size, 1, none⟩ = some (.string (resE R1)) := by have := KBba.out.cell 1; rwa [World.cell?_alloc_lt _ _ _ (KLba.out)] at this
                  have kbal : w5.heap.size < w11.heap.size := KLba.out
                  have kbb0 : w11.cell? ⟨w6.heap.size, 0, none⟩ = some (.slice Ab nb cb) := by have := KBbb.out.cell 0; rwa [World.cell?_alloc_lt _ _ _ (KLbb.out)] at this
                  have kbb1 : w11.cell? ⟨w6.heap.size, 1, none⟩ = some (.string (resE R2)) := by have := KBbb.out.cell 1; rwa [World.cell?_alloc_lt _ _ _ (KLbb.out)] at this
                  have kbbl : w6.heap.size < w11.heap.size := KLbb.out
                  have kbc0 : w11.cell? ⟨w7.heap.size, 0, none⟩ = some (.slice Ac nc cc) := by have := KBbc.out.cell 0; rwa [World.cell?_alloc_lt _ _ _ (KLbc.out)] at this
                  have kbc1 : w11.cell? ⟨w7.heap.size, 1, none⟩ = some (.string (resE R3)) := by have := KBbc.out.cell 1; rwa [World.cell?_alloc_lt _ _ _ (KLbc.out)] at this
                  have kbcl : w7.heap.size < w11.heap.size := KLbc.out
                  have kbd0 : w11.cell? ⟨w8.heap.size, 0, none⟩ = some (.slice Ad nd cd) := by have := KBbd.out.cell 0; rwa [World.cell?_alloc_lt _ _ _ (KLbd.out)] at this
                  have kbd1 : w11.cell? ⟨w8.heap.size, 1, none⟩ = some (.string (resE R4)) := by have := KBbd.out.cell 1; rwa [World.cell?_alloc_lt _ _ _ (KLbd.out)] at this
                  have kbdl : w8.heap.size < w11.heap.size := KLbd.out
                  have kbe0 : w11.cell? ⟨w9.heap.size, 0, none⟩ = some (.slice Ae ne ce) := by have := KBbe.out.cell 0; rwa [World.cell?_alloc_lt _ _ _ (KLbe.out)] at this
                  have kbe1 : w11.cell? ⟨w9.heap.size, 1, none⟩ = some (.string (resE R5)) := by have := KBbe.out.cell 1; rwa [World.cell?_alloc_lt _ _ _ (KLbe.out)] at this
                  have kbel : w9.heap.size < w11.heap.size := KLbe.out
                  have kbf0 : w11.cell? ⟨w10.heap.size, 0, none⟩ = some (.slice Af nf cf) := by have := KBbf.out.cell 0; rwa [World.cell?_alloc_lt _ _ _ (KLbf.out)] at this
                  have kbf1 : w11.cell? ⟨w10.heap.size, 1, none⟩ = some (.string (resE R6)) := by have := KBbf.out.cell 1; rwa [World.cell?_alloc_lt _ _ _ (KLbf.out)] at this
                  have kbfl : w10.heap.size < w11.heap.size := KLbf.out
                  go_wp2_with fail
                  refine HC.out.mono ?_
                  rintro e w12 ⟨rfl, hb⟩
                  clear kbt0 kbt1 kbtl kbu0 kbu1 kbul kbo0 kbo1 kbol kbw0 kbw1 kbwl kba0 kba1 kbal kbb0 kbb1 kbbl kbc0 kbc1 kbcl kbd0 kbd1 kbdl kbe0 kbe1 kbel kbf0 kbf1 kbfl
                  have KBbt := Lib.hid (KBbt.out.below hb KBbt.out.lt)
                  have KBbu := Lib.hid (KBbu.out.below hb KBbu.out.lt)
                  have KBbo := Lib.hid (KBbo.out.below hb KBbo.out.lt)
                  have KBbw := Lib.hid (KBbw.out.below hb KBbw.out.lt)
                  have KBba := Lib.hid (KBba.out.below hb KBba.out.lt)
                  have KBbb := Lib.hid (KBbb.out.below hb KBbb.out.lt)
                  have KBbc := Lib.hid (KBbc.out.below hb KBbc.out.lt)
                  have KBbd := Lib.hid (KBbd.out.below hb KBbd.out.lt)
                  have KBbe := Lib.hid (KBbe.out.below hb KBbe.out.lt)
                  have KBbf := Lib.hid (KBbf.out.below hb KBbf.out.lt)
                  have KBbg := Lib.hid (KBbg.out.below hb KBbg.out.lt)
                  have HRt := Lib.hid (own_below0 HRt.out hb)
                  have HRu := Lib.hid (own_below0 HRu.out hb)
                  have HRo := Lib.hid (own_below0 HRo.out hb)
                  have HRw := Lib.hid (own_below0 HRw.out hb)
                  have HRa := Lib.hid (own_below0 HRa.out hb)
                  have HRb := Lib.hid (own_below0 HRb.out hb)
                  have HRc := Lib.hid (own_below0 HRc.out hb)
                  have HRd := Lib.hid (own_below0 HRd.out hb)
                  have HRe := Lib.hid (own_below0 HRe.out hb)
                  have HRf := Lib.hid (own_below0 HRf.out hb)
                  have HRg := Lib.hid (own_below0 HRg.out hb)
                  have HB := Lib.hid (HB.out.trans (hb.mono HB.out.size))
                  clear hb HC
                  go_wp2
                  go_ret
                  exact ⟨rfl, HB.out⟩
        | true =>
          have hsm : resL R1 = resL R3 ∧ resE R1 = resE R3 := assoc_law HKo.out s0 HKa.out s1 HKb.out s2 HKc.out s3
          have hsd : (decide (resL R1 = resL R3) && decide (resE R1 = resE R3)) = true := by rw [decide_eq_true hsm.1, decide_eq_true hsm.2]; rfl
          have hc := sameTree2_any Aa Ac na nc ca cc (resL R1) (resL R3) (resE R1) (resE R3) ((w11.alloc (.cells #[.slice Ag ng cg, .string (resE R7)] 25))) (RS.of_own HRa.out) (RS.of_own HRc.out) (by omega)
          rw [hsd] at hc
          have HC := Lib.hid hc
          clear hc hsd hsm
          have kbt0 : w11.cell? ⟨w1.heap.size, 0, none⟩ = some (.slice At nt ct) := by have := KBbt.out.cell 0; rwa [World.cell?_alloc_lt _ _ _ (KLbt.out)] at this
          have kbt1 : w11.cell? ⟨w1.heap.size, 1, none⟩ = some (.string et) := by have := KBbt.out.cell 1; rwa [World.cell?_alloc_lt _ _ _ (KLbt.out)] at this
          have kbtl : w1.heap.size < w11.heap.size := KLbt.out
          have kbu0 : w11.cell? ⟨(w1.heap.size + 1), 0, none⟩ = some (.slice Au nu cu) := by have := KBbu.out.cell 0; rwa [World.cell?_alloc_lt _ _ _ (KLbu.out)] at this
          have kbu1 : w11.cell? ⟨(w1.heap.size + 1), 1, none⟩ = some (.string eu) := by have := KBbu.out.cell 1; rwa [World.cell?_alloc_lt _ _ _ (KLbu.out)] at this
          have kbul : (w1.heap.size + 1) < w11.heap.size := KLbu.out
          have kbo0 : w11.cell? ⟨w2.heap.size, 0, none⟩ = some (.slice Ao no co) := by have := KBbo.out.cell 0; rwa [World.cell?_alloc_lt _ _ _ (KLbo.out)] at this
          have kbo1 : w11.cell? ⟨w2.heap.size, 1, none⟩ = some (.string (resE R)) := by have := KBbo.out.cell 1; rwa [World.cell?_alloc_lt _ _ _ (KLbo.out)] at this
          have kbol : w2.heap.size < w11.heap.size := KLbo.out
          have kbw0 : w11.cell? ⟨w3.heap.size, 0, none⟩ = some (.slice Aw nw cw) := by have := KBbw.out.cell 0; rwa [World.cell?_alloc_lt _ _ _ (KLbw.out)] at this
          have kbw1 : w11.cell? ⟨w3.heap.size, 1, none⟩ = some (.string (resE R)) := by have := KBbw.out.cell 1; rwa [World.cell?_alloc_lt _ _ _ (KLbw.out)] at this
          have kbwl : w3.heap.size < w11.heap.size := KLbw.out
          have kba0 : w11.cell? ⟨w5.heap.size, 0, none⟩ = some (.slice Aa na ca) := by have := KBba.out.cell 0; rwa [World.cell?_alloc_lt _ _ _ (KLba.out)] at this
          have kba1 : w11.cell? ⟨w5.heap.size, 1, none⟩ = some (.string (resE R1)) := by have := KBba.out.cell 1; rwa [World.cell?_alloc_lt _ _ _ (KLba.out)] at this
          have kbal : w5.heap.size < w11.heap.size := KLba.out
          have kbb0 : w11.cell? ⟨w6.heap.size, 0, none⟩ = some (.slice Ab nb cb) := by have := KBbb.out.cell 0; rwa [World.cell?_alloc_lt _ _ _ (KLbb.out)] at this
          have kbb1 : w11.cell? ⟨w6.heap.size, 1, none⟩ = some (.string (resE R2)) := by have := KBbb.out.cell 1; rwa [World.cell?_alloc_lt _ _ _ (KLbb.out)] at this
          have kbbl : w6.heap.size < w11.heap.size := KLbb.out
          have kbc0 : w11.cell? ⟨w7.heap.size, 0, none⟩ = some (.slice Ac nc cc) := by have := KBbc.out.cell 0; rwa [World.cell?_alloc_lt _ _ _ (KLbc.out)] at this
          have kbc1 : w11.cell? ⟨w7.heap.size, 1, none⟩ = some (.string (resE R3)) := by have := KBbc.out.cell 1; rwa [World.cell?_alloc_lt _ _ _ (KLbc.out)] at this
          have kbcl : w7.heap.size < w11.heap.size := KLbc.out
          have kbd0 : w11.cell? ⟨w8.heap.size, 0, none⟩ = some (.slice Ad nd cd) := by have := KBbd.out.cell 0; rwa [World.cell?_alloc_lt _ _ _ (KLbd.out)] at this
          have kbd1 : w11.cell? ⟨w8.heap.size, 1, none⟩ = some (.string (resE R4)) := by have := KBbd.out.cell 1; rwa [World.cell?_alloc_lt _ _ _ (KLbd.out)] at this
          have kbdl : w8.heap.size < w11.heap.size := KLbd.out
          have kbe0 : w11.cell? ⟨w9.heap.size, 0, none⟩ = some (.slice Ae ne ce) := by have := KBbe.out.cell 0; rwa [World.cell?_alloc_lt _ _ _ (KLbe.out)] at this
          have kbe1 : w11.cell? ⟨w9.heap.size, 1, none⟩ = some (.string (resE R5)) := by have := KBbe.out.cell 1; rwa [World.cell?_alloc_lt _ _ _ (KLbe.out)] at this
          have kbel : w9.heap.size < w11.heap.size := KLbe.out
          have kbf0 : w11.cell? ⟨w10.heap.size, 0, none⟩ = some (.slice Af nf cf) := by have := KBbf.out.cell 0; rwa [World.cell?_alloc_lt _ _ _ (KLbf.out)] at this
          have kbf1 : w11.cell? ⟨w10.heap.size, 1, none⟩ = some (.string (resE R6)) := by have := KBbf.out.cell 1; rwa [World.cell?_alloc_lt _ _ _ (KLbf.out)] at this
          have kbfl : w10.heap.size < w11.heap.size := KLbf.out
          go_wp2_with fail
          refine HC.out.mono ?_
          rintro e w12 ⟨rfl, hb⟩
          clear kbt0 kbt1 kbtl kbu0 kbu1 kbul kbo0 kbo1 kbol kbw0 kbw1 kbwl kba0 kba1 kbal kbb0 kbb1 kbbl kbc0 kbc1 kbcl kbd0 kbd1 kbdl kbe0 kbe1 kbel kbf0 kbf1 kbfl
          have KBbt := Lib.hid (KBbt.out.below hb KBbt.out.lt)
          have KBbu := Lib.hid (KBbu.out.below hb KBbu.out.lt)
          have KBbo := Lib.hid (KBbo.out.below hb KBbo.out.lt)
          have KBbw := Lib.hid (KBbw.out.below hb KBbw.out.lt)
          have KBba := Lib.hid (KBba.out.below hb KBba.out.lt)
          have KBbb := Lib.hid (KBbb.out.below hb KBbb.out.lt)
          have KBbc := Lib.hid (KBbc.out.below hb KBbc.out.lt)
          have KBbd := Lib.hid (KBbd.out.below hb KBbd.out.lt)
          have KBbe := Lib.hid (KBbe.out.below hb KBbe.out.lt)
          have KBbf := Lib.hid (KBbf.out.below hb KBbf.out.lt)
          have KBbg := Lib.hid (KBbg.out.below hb KBbg.out.lt)
          have HRt := Lib.hid (own_below0 HRt.out hb)
          have HRu := Lib.hid (own_below0 HRu.out hb)
          have HRo := Lib.hid (own_below0 HRo.out hb)
          have HRw := Lib.hid (own_below0 HRw.out hb)
          have HRa := Lib.hid (own_below0 HRa.out hb)
          have HRb := Lib.hid (own_below0 HRb.out hb)
          have HRc := Lib.hid (own_below0 HRc.out hb)
          have HRd := Lib.hid (own_below0 HRd.out hb)
          have HRe := Lib.hid (own_below0 HRe.out hb)
          have HRf := Lib.hid (own_below0 HRf.out hb)
          have HRg := Lib.hid (own_below0 HRg.out hb)
          have HB := Lib.hid (HB.out.trans (hb.mono HB.out.size))
          clear hb HC
          cases s4 : R4.isSome with
          | false =>
            go_wp2
            go_ret
            exact ⟨rfl, HB.out⟩
          | true =>
            cases s5 : R5.isSome with
            | false =>
              go_wp2
              go_ret
              exact ⟨rfl, HB.out⟩
            | true =>
              cases s6 : R6.isSome with
              | false =>
                go_wp2
                go_ret
                exact ⟨rfl, HB.out⟩
              | true =>
                cases s7 : R7.isSome with
                | false =>
                  go_wp2
                  go_ret
                  exact ⟨rfl, HB.out⟩
                | true =>
                  have hsm : resL R4 = resL R7 ∧ resE R4 = resE R7 := turn_times_law HKo.out s0 HKd.out s4 HKe.out s5 HKf.out s6 HKg.out s7
                  have hsd : (decide (resL R4 = resL R7) && decide (resE R4 = resE R7)) = true := by rw [decide_eq_true hsm.1, decide_eq_true hsm.2]; rfl
                  have hc := sameTree2_any Ad Ag nd ng cd cg (resL R4) (resL R7) (resE R4) (resE R7) w12 (RS.of_own HRd.out) (RS.of_own HRg.out) (by omega)
                  rw [hsd] at hc
                  have HC := Lib.hid hc
                  clear hc hsd hsm
                  have kbt0 : w12.cell? ⟨w1.heap.size, 0, none⟩ = some (.slice At nt ct) := KBbt.out.cell 0
                  have kbt1 : w12.cell? ⟨w1.heap.size, 1, none⟩ = some (.string et) := KBbt.out.cell 1
                  have kbtl : w1.heap.size < w12.heap.size := KBbt.out.lt
                  have kbu0 : w12.cell? ⟨(w1.heap.size + 1), 0, none⟩ = some (.slice Au nu cu) := KBbu.out.cell 0
                  have kbu1 : w12.cell? ⟨(w1.heap.size + 1), 1, none⟩ = some (.string eu) := KBbu.out.cell 1
                  have kbul : (w1.heap.size + 1) < w12.heap.size := KBbu.out.lt
                  have kbo0 : w12.cell? ⟨w2.heap.size, 0, none⟩ = some (.slice Ao no co) := KBbo.out.cell 0
                  have kbo1 : w12.cell? ⟨w2.heap.size, 1, none⟩ = some (.string (resE R)) := KBbo.out.cell 1
                  have kbol : w2.heap.size < w12.heap.size := KBbo.out.lt
                  have kbw0 : w12.cell? ⟨w3.heap.size, 0, none⟩ = some (.slice Aw nw cw) := KBbw.out.cell 0
                  have kbw1 : w12.cell? ⟨w3.heap.size, 1, none⟩ = some (.string (resE R)) := KBbw.out.cell 1
                  have kbwl : w3.heap.size < w12.heap.size := KBbw.out.lt
                  have kba0 : w12.cell? ⟨w5.heap.size, 0, none⟩ = some (.slice Aa na ca) := KBba.out.cell 0
                  have kba1 : w12.cell? ⟨w5.heap.size, 1, none⟩ = some (.string (resE R1)) := KBba.out.cell 1
                  have kbal : w5.heap.size < w12.heap.size := KBba.out.lt
                  have kbb0 : w12.cell? ⟨w6.heap.size, 0, none⟩ = some (.slice Ab nb cb) := KBbb.out.cell 0
                  have kbb1 : w12.cell? ⟨w6.heap.size, 1, none⟩ = some (.string (resE R2)) := KBbb.out.cell 1
                  have kbbl : w6.heap.size < w12.heap.size := KBbb.out.lt
                  have kbc0 : w12.cell? ⟨w7.heap.size, 0, none⟩ = some (.slice Ac nc cc) := KBbc.out.cell 0
                  have kbc1 : w12.cell? ⟨w7.heap.size, 1, none⟩ = some (.string (resE R3)) := KBbc.out.cell 1
                  have kbcl : w7.heap.size < w12.heap.size := KBbc.out.lt
                  have kbd0 : w12.cell? ⟨w8.heap.size, 0, none⟩ = some (.slice Ad nd cd) := KBbd.out.cell 0
                  have kbd1 : w12.cell? ⟨w8.heap.size, 1, none⟩ = some (.string (resE R4)) := KBbd.out.cell 1
                  have kbdl : w8.heap.size < w12.heap.size := KBbd.out.lt
                  have kbe0 : w12.cell? ⟨w9.heap.size, 0, none⟩ = some (.slice Ae ne ce) := KBbe.out.cell 0
                  have kbe1 : w12.cell? ⟨w9.heap.size, 1, none⟩ = some (.string (resE R5)) := KBbe.out.cell 1
                  have kbel : w9.heap.size < w12.heap.size := KBbe.out.lt
                  have kbf0 : w12.cell? ⟨w10.heap.size, 0, none⟩ = some (.slice Af nf cf) := KBbf.out.cell 0
                  have kbf1 : w12.cell? ⟨w10.heap.size, 1, none⟩ = some (.string (resE R6)) := KBbf.out.cell 1
                  have kbfl : w10.heap.size < w12.heap.size := KBbf.out.lt
                  have kbg0 : w12.cell? ⟨w11.heap.size, 0, none⟩ = some (.slice Ag ng cg) := KBbg.out.cell 0
                  have kbg1 : w12.cell? ⟨w11.heap.size, 1, none⟩ = some (.string (resE R7)) := KBbg.out.cell 1
                  have kbgl : w11.heap.size < w12.heap.size := KBbg.out.lt
                  go_wp2_with fail
                  refine HC.out.mono ?_
                  rintro e w13 ⟨rfl, hb⟩
                  clear kbt0 kbt1 kbtl kbu0 kbu1 kbul kbo0 kbo1 kbol kbw0 kbw1 kbwl kba0 kba1 kbal kbb0 kbb1 kbbl kbc0 kbc1 kbcl kbd0 kbd1 kbdl kbe0 kbe1 kbel kbf0 kbf1 kbfl kbg0 kbg1 kbgl
                  have KBbt := Lib.hid (KBbt.out.below hb KBbt.out.lt)
                  have KBbu := Lib.hid (KBbu.out.below hb KBbu.out.lt)
                  have KBbo := Lib.hid (KBbo.out.below hb KBbo.out.lt)
                  have KBbw := Lib.hid (KBbw.out.below hb KBbw.out.lt)
                  have KBba := Lib.hid (KBba.out.below hb KBba.out.lt)
                  have KBbb := Lib.hid (KBbb.out.below hb KBbb.out.lt)
                  have KBbc := Lib.hid (KBbc.out.below hb KBbc.out.lt)
                  have KBbd := Lib.hid (KBbd.out.below hb KBbd.out.lt)
                  have KBbe := Lib.hid (KBbe.out.below hb KBbe.out.lt)
                  have KBbf := Lib.hid (KBbf.out.below hb KBbf.out.lt)
                  have KBbg := Lib.hid (KBbg.out.below hb KBbg.out.lt)
                  have HRt := Lib.hid (own_below0 HRt.out hb)
                  have HRu := Lib.hid (own_below0 HRu.out hb)
                  have HRo := Lib.hid (own_below0 HRo.out hb)
                  have HRw := Lib.hid (own_below0 HRw.out hb)
                  have HRa := Lib.hid (own_below0 HRa.out hb)
                  have HRb := Lib.hid (own_below0 HRb.out hb)
                  have HRc := Lib.hid (own_below0 HRc.out hb)
                  have HRd := Lib.hid (own_below0 HRd.out hb)
                  have HRe := Lib.hid (own_below0 HRe.out hb)
                  have HRf := Lib.hid (own_below0 HRf.out hb)
                  have HRg := Lib.hid (own_below0 HRg.out hb)
                  have HB := Lib.hid (HB.out.trans (hb.mono HB.out.size))
                  clear hb HC
                  go_wp2
                  go_ret
                  exact ⟨rfl, HB.out⟩

/-! ### THE ROW's STEP -/
abbrev laidL : List (String × DataW Unit) := [("unicode/utf8.acceptRanges", Rows.laid_unicode_utf8_acceptRanges), ("unicode/utf8.first", Rows.laid_unicode_utf8_first)]
theorem laidWorld_met (os : Os) (args : Array Value) : laidMetH Tryd.prog laidL ((World.laidAll Tryd.prog os laidL).forCall (fun _ _ => 0) ⟨#[], args, []⟩).memory :=
  laidMetH_of_parts (laidMet_laidAll _ (by kernel_rfl) (by kernel_rfl)) (by kernel_rfl)

set_option maxRecDepth 100000 in
theorem lifted (os : Os) (started : os.Started) (H : Type) (enc : TypeId × Value → H) :
    ReturnsInHanded {} Tryd.checked os 5 .any (fun w args => (Rows.fnTreeTimesSpec.pre enc Tryd.prog Tryd.f5 [] false w args ∧ laidMetH Tryd.prog laidL w) ∧ sizedMet enc Tryd.prog Tryd.f5 (OpenSpec.ofChange Rows.fnTreeTimesSpec) false w args) (Rows.fnTreeTimesSpec.post enc Tryd.prog Tryd.f5 false true false false) := by
  refine returnsInHanded_of_change_and (C := Tryd.checked) (X := fun w _ => laidMetH Tryd.prog laidL w) (fun _ _ _ hh h => h.of_heap hh) own started (by kernel_rfl) Tryd.func5
    (ChangeSpec.witness_shaped (enc := enc) (C := Tryd.checked) (os := os) (X := fun w _ => laidMetH Tryd.prog laidL w) false (World.laidAll Tryd.prog os laidL) #[.slice none 0 0] 8 rfl (World.shaped_of_ZipB (by kernel_rfl) (by kernel_rfl)) (by kernel_rfl) (by kernel_rfl) (by kernel_rfl) (laidWorld_met os _)) ?_
  intro W base args ds gs before hval0 hW _ _ hL _
  have hval : ∀ (j : Nat) t v, Tryd.f5.params[j]? = some t → args[j]? = some v → Value.okWide Tryd.prog W .any base t v := hval0
  have hW' := hW
  obtain ⟨p, q, hA0, hV, rfl, hfz, hnd⟩ := hW
  have hA : DataW.TrodAll enc Tryd.prog W 0 (fun _ => true) true Tryd.f5.params.toList args.toList ds p := hA0
  rw [Tryd.params5] at hA hval
  obtain ⟨v0, vs0, d0, ds0, p0, qq0, hargs, rfl, rfl, h0, r0⟩ := trodAll_cons hA
  obtain ⟨rfl, rfl, rfl⟩ := trodAll_nil r0
  obtain rfl : args = #[v0] := by cases args; simp_all
  obtain ⟨rfl, rfl⟩ := trodVars_none hV
  obtain ⟨a0, len0, cap0, rfl⟩ := okWide_slice Tryd.underlying22 (hval 0 22 v0 rfl rfl)
  have k0 := h0
  have lt0 : ∀ x ∈ p0, x.block < W.heap.size := by obtain ⟨m, hm⟩ := k0; exact DataW.trod_lt m _ _ _ hm
  obtain ⟨z0, w0⟩ : ∃ zs, IsRow .u8 W a0 len0 cap0 zs := by
    obtain ⟨fuel, hf⟩ := h0
    rcases open_ints Tryd.underlying22 Tryd.underlying5 (by kernel_rfl) hf with ⟨hcs, _⟩ | ⟨x, l, c, zs, hcs, _, hl, hm, hz, _, hcell, hwz⟩
    · simp [Value.cells] at hcs
      obtain ⟨rfl, rfl, rfl⟩ := hcs
      exact ⟨[], .inl ⟨rfl, rfl, rfl, rfl⟩⟩
    · simp [Value.cells] at hcs
      obtain ⟨rfl, rfl, rfl⟩ := hcs
      exact ⟨zs, .inr ⟨_, rfl, hl, hm, by simpa using hz, hcell, hwz⟩⟩
  clear hA0 hval0
  refine (walk a0 len0 cap0 z0 W trivial w0).mono fun e W' ⟨he, bel⟩ => ?_
  subst he
  exact ⟨_, rfl, _, _, _, [], _, [], hW', trodAll_mk1 (shut_bool Tryd.underlying4 _), (trodAll_cons_mk (Below.trod laidOut (by kernel_rfl) (of_decide_eq_true (by kernel_rfl)) k0 bel lt0) trodAll_mk0), rfl, bel.frame _, fun h => by cases h⟩

theorem over : Rows.fnTreeTimesRow.holds Tryd.pinned (OpenSpec.ofChange Rows.fnTreeTimesSpec) :=
  OpenClaim.holds_of_wide 5 Tryd.f5 rfl rfl rfl rfl rfl rfl rfl ⟨rfl, rfl, rfl, rfl, rfl⟩ rfl rfl rfl rfl rfl (by kernel_rfl) Tryd.func5 (by kernel_rfl)
    (of_decide_eq_true (by kernel_rfl)) (by unfold Func.isWrapper; first | (rw [if_pos (by decide +kernel)]; kernel_rfl) | (rw [if_neg (by decide +kernel)]; exact ⟨rfl, rfl⟩))
    (fun os started H enc _ => lifted os started H enc)

theorem proved : Rows.FnTreeTimesCardSaid :=
  Claim7.holds_tied_plain_at .later [] [.data, .pinned] true _ false
    over (fun _ h => by cases h) (by kernel_rfl) (fun _ h => by cases h) fnTreeTimes_row_tie rfl ⟨rfl, rfl⟩ (by kernel_rfl) rfl
    (fun f fn hf hfn => by
      obtain rfl : f = 5 := Option.some.inj ((show Tryd.prog.funcNamed Rows.fnTreeTimesRow.func = some 5 by kernel_rfl).symm.trans hf) |>.symm
      obtain rfl : fn = Tryd.f5 := (Option.some.inj (Tryd.func5.symm.trans hfn)).symm
      exact ⟨by kernel_rfl, fun j t ht => by
        rw [Tryd.params5] at ht
        rcases j with _ | j
        · have h0 : t = 22 := by simpa using ht.symm
          subst h0
          exact (show Tryd.prog.wantsStandIn 22 = false by kernel_rfl)
        simp at ht⟩)
    (by kernel_rfl)
#print axioms proved
end Go.Proofs.YtlfbocmcbkcfhaaDoor.fnTreeTimes

