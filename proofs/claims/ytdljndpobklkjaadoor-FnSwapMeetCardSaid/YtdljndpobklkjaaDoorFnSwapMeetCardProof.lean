/-
  FnSwapMeet: for every input the law returns true and leaves its arguments as they were. No condition.
-/
import Derived.Test.YtdljndpobklkjaaDoorRows
import Derived.Test.YtdljndpobklkjaaDoorCards
import Derived.Test.YtdljndpobklkjaaDoorTie
import Derived.Test.YtdljndpobklkjaaDoorDr7
import Derived.Test.YtdljndpobklkjaaDoorEq6
import Derived.Test.YtdljndpobklkjaaDoorSk
import Derived.WalkKit
import Derived.Deep.QuietTactic
import Derived.BigQuiet
import Derived.Outline
import Derived.ProofKit
import Derived.OpenShut
import Derived.ShutString
import Derived.ChangeOld
import Derived.Below
import Derived.ChangeSame
import Derived.ChangeVars
import Derived.JoinedOf
import Derived.RowKit
import Derived.RowKitTokens
import Derived.LaidLaws
import Derived.LaidHandle
import Derived.Stop.Joined
import Derived.SevenTiedAt
import Derived.Lay
namespace Go.Proofs.YtdljndpobklkjaaDoor.fnSwapMeet
set_option maxRecDepth 100000
open Go.ChangeShapes Go.WideShapes Go.ChangeAt Go.RowKit
open Go.ChangeMaps (open_string shut_string)
set_option linter.unusedVariables false

theorem own : ownKnob Tryd.prog.godebug = none := by kernel_rfl
theorem laidOut : laidOutB Tryd.prog = true := by kernel_rfl

def IsRow (k : IntKind) (w : World) (a : Option Addr) (len cap : Nat) (zs : List Int) : Prop :=
  (a = none ∧ len = 0 ∧ cap = 0 ∧ zs = []) ∨
  ∃ x, a = some x ∧ len ≤ cap ∧ cap ≤ maxLen ∧ zs.length = cap ∧ (∀ i, i < zs.length → w.cell? (x.add i) = some (.int k (zs.getD i 0))) ∧ ∀ n ∈ zs, (Lit.int k n).wf = true

theorem src_of {w : World} {a : Option Addr} {len cap : Nat} {zs : List Int} (h : IsRow .u8 w a len cap zs) : ∃ bs : Nat → Nat, Src w w.heap.size a len bs ∧ len ≤ cap := by
  rcases h with ⟨rfl, rfl, rfl, rfl⟩ | ⟨x, rfl, hlc, _, hz, hc, hw⟩
  · exact ⟨fun _ => 0, ⟨fun _ => (by decide : (0 : Nat) < 256), fun j hj => absurd hj (by omega)⟩, Nat.le_refl _⟩
  · have hr : ∀ j, 0 ≤ zs.getD j 0 ∧ zs.getD j 0 < 256 := fun j => by
      rcases Nat.lt_or_ge j zs.length with h | h
      · have := hw zs[j] (List.getElem_mem h)
        rw [List.getD_eq_getElem?_getD, List.getElem?_eq_getElem h]
        simp [Lit.wf] at this
        have h0 : IntKind.u8.min = 0 := by decide
        have h1 : IntKind.u8.max = 255 := by decide
        rw [h0, h1] at this
        simp
        omega
      · rw [List.getD_eq_getElem?_getD, List.getElem?_eq_none h]; simp
    refine ⟨fun j => (zs.getD j 0).toNat, ⟨fun j => by have := hr j; show (zs.getD j 0).toNat < 256; omega, fun j hj => ⟨x, rfl, ?_, ?_⟩⟩, hlc⟩
    · have := block_lt_of_cell (hc 0 (by omega)); rwa [block_of_add] at this
    · rw [hc j (by omega), Int.toNat_of_nonneg (hr j).1]

set_option maxHeartbeats 3000000 in
theorem walk (a0 : Option Addr) (len0 cap0 : Nat) (z0 : List Int) (w : World) (het : True) (w0 : IsRow .u8 w a0 len0 cap0 z0) :
    Calls Tryd.prog 13 #[.slice a0 len0 cap0] w fun e w' => e = .returned (.bool true) ∧ Below w.heap.size w w' := by
  have HET := Lib.hid het
  clear het
  obtain ⟨bb, hS, hlc⟩ := src_of w0
  clear w0
  by_cases hbig : 1048576 < len0
  · go_enter Tryd.func13, Tryd.ntmps13
    go_wp2
    go_ret
    exact ⟨rfl, Below.refl _ _⟩
  go_enter Tryd.func13, Tryd.ntmps13
  go_wp2_with fail
  refine (drawSwapMeet_any _ _ _ _ _ hS hlc (by omega)).mono ?_
  rintro e v0 ⟨x0, y0, x1, y1, z0, z1, rfl, hx0, hy0, hx1, hy1, hb0⟩
  obtain ⟨f0, rfl⟩ : ∃ l, x0 = bs l := ⟨_, (bs_of _).symm⟩
  obtain ⟨t0, rfl⟩ : ∃ l, y0 = bs l := ⟨_, (bs_of _).symm⟩
  obtain ⟨f1, rfl⟩ : ∃ l, x1 = bs l := ⟨_, (bs_of _).symm⟩
  obtain ⟨t1, rfl⟩ : ∃ l, y1 = bs l := ⟨_, (bs_of _).symm⟩
  rw [bs_size] at hx0 hy0 hx1 hy1
  have HB := Lib.hid hb0
  clear hS hlc hbig hb0
  have HI := Lib.hid (fun W => implMeet_any f0 t0 f1 t1 z0 z1 (by omega) (by omega) (by omega) (by omega) W)
  have HS := Lib.hid (fun W => specMeet_any f0 t0 f1 t1 z0 z1 (by omega) (by omega) (by omega) (by omega) W)
  rcases hR : meetS ⟨f0, t0, z0⟩ ⟨f1, t1, z1⟩ with ⟨⟨fo, to, zo⟩, bo⟩
  rw [hR, swV_mk] at HI HS
  dsimp only at HI HS
  have qo := sw_eql ((bs fo)) ((bs to)) zo
  have qon := sw_neq ((bs fo)) ((bs to)) zo
  have qog := fun op a b => sw_guard op a b #[.string (bs fo), .string (bs to), .bool zo] #[.string (bs fo), .string (bs to), .bool zo]
  cases bo with
  | false =>
    clear hR
    go_wp2_with fail
    refine (HI.out _).mono ?_
    rintro e v1 ⟨rfl, hb1⟩
    have Ka0 := Lib.hid (((Blk.new v0 32 #[.string (bs f0), .string (bs t0), .bool z0]).alloc (.cells #[.string (bs f1), .string (bs t1), .bool z1] 32)).on hb1)
    have Ka1 := Lib.hid ((blk_snd6 v0 32 32 #[.string (bs f0), .string (bs t0), .bool z0] #[.string (bs f1), .string (bs t1), .bool z1]).on hb1)
    have HB := Lib.hid ((bel_al (bel_al HB.out (.cells #[.string (bs f0), .string (bs t0), .bool z0] 32)) (.cells #[.string (bs f1), .string (bs t1), .bool z1] 32)).trans (hb1.mono (bel_al (bel_al HB.out (.cells #[.string (bs f0), .string (bs t0), .bool z0] 32)) (.cells #[.string (bs f1), .string (bs t1), .bool z1] 32)).size))
    clear hb1
    have ca00 : v1.cell? ⟨v0.heap.size, 0, none⟩ = some (.string (bs f0)) := Ka0.out.cell 0
    have ca01 : v1.cell? ⟨v0.heap.size, 1, none⟩ = some (.string (bs t0)) := Ka0.out.cell 1
    have ca02 : v1.cell? ⟨v0.heap.size, 2, none⟩ = some (.bool z0) := Ka0.out.cell 2
    have la0 : v0.heap.size < v1.heap.size := Ka0.out.lt
    have ca10 : v1.cell? ⟨v0.heap.size + 1, 0, none⟩ = some (.string (bs f1)) := Ka1.out.cell 0
    have ca11 : v1.cell? ⟨v0.heap.size + 1, 1, none⟩ = some (.string (bs t1)) := Ka1.out.cell 1
    have ca12 : v1.cell? ⟨v0.heap.size + 1, 2, none⟩ = some (.bool z1) := Ka1.out.cell 2
    have la1 : v0.heap.size + 1 < v1.heap.size := Ka1.out.lt
    go_wp2_with fail
    refine (HS.out _).mono ?_
    rintro e v2 ⟨rfl, hb2⟩
    clear ca00 ca01 ca02 la0 ca10 ca11 ca12 la1
    have Ka0 := Lib.hid ((Ka0.out.alloc (.cells #[.string (bs fo), .string (bs to), .bool zo] 32)).on hb2)
    have Ka1 := Lib.hid ((Ka1.out.alloc (.cells #[.string (bs fo), .string (bs to), .bool zo] 32)).on hb2)
    have Kbo := Lib.hid (((Blk.new v1 32 #[.string (bs fo), .string (bs to), .bool zo])).on hb2)
    have HB := Lib.hid ((bel_al HB.out (.cells #[.string (bs fo), .string (bs to), .bool zo] 32)).trans (hb2.mono (bel_al HB.out (.cells #[.string (bs fo), .string (bs to), .bool zo] 32)).size))
    clear hb2
    have ca00 : v2.cell? ⟨v0.heap.size, 0, none⟩ = some (.string (bs f0)) := Ka0.out.cell 0
    have ca01 : v2.cell? ⟨v0.heap.size, 1, none⟩ = some (.string (bs t0)) := Ka0.out.cell 1
    have ca02 : v2.cell? ⟨v0.heap.size, 2, none⟩ = some (.bool z0) := Ka0.out.cell 2
    have la0 : v0.heap.size < v2.heap.size := Ka0.out.lt
    have ca10 : v2.cell? ⟨v0.heap.size + 1, 0, none⟩ = some (.string (bs f1)) := Ka1.out.cell 0
    have ca11 : v2.cell? ⟨v0.heap.size + 1, 1, none⟩ = some (.string (bs t1)) := Ka1.out.cell 1
    have ca12 : v2.cell? ⟨v0.heap.size + 1, 2, none⟩ = some (.bool z1) := Ka1.out.cell 2
    have la1 : v0.heap.size + 1 < v2.heap.size := Ka1.out.lt
    have cbo0 : v2.cell? ⟨v1.heap.size, 0, none⟩ = some (.string (bs fo)) := Kbo.out.cell 0
    have cbo1 : v2.cell? ⟨v1.heap.size, 1, none⟩ = some (.string (bs to)) := Kbo.out.cell 1
    have cbo2 : v2.cell? ⟨v1.heap.size, 2, none⟩ = some (.bool zo) := Kbo.out.cell 2
    have lbo : v1.heap.size < v2.heap.size := Kbo.out.lt
    go_wp2
    go_ret
    exact ⟨by try rfl, (bel_al HB.out (.cells #[.string (bs fo), .string (bs to), .bool zo] 32))⟩
  | true =>
    go_wp2_with fail
    refine (HI.out _).mono ?_
    rintro e v1 ⟨rfl, hb1⟩
    have Ka0 := Lib.hid (((Blk.new v0 32 #[.string (bs f0), .string (bs t0), .bool z0]).alloc (.cells #[.string (bs f1), .string (bs t1), .bool z1] 32)).on hb1)
    have Ka1 := Lib.hid ((blk_snd6 v0 32 32 #[.string (bs f0), .string (bs t0), .bool z0] #[.string (bs f1), .string (bs t1), .bool z1]).on hb1)
    have HB := Lib.hid ((bel_al (bel_al HB.out (.cells #[.string (bs f0), .string (bs t0), .bool z0] 32)) (.cells #[.string (bs f1), .string (bs t1), .bool z1] 32)).trans (hb1.mono (bel_al (bel_al HB.out (.cells #[.string (bs f0), .string (bs t0), .bool z0] 32)) (.cells #[.string (bs f1), .string (bs t1), .bool z1] 32)).size))
    clear hb1
    have ca00 : v1.cell? ⟨v0.heap.size, 0, none⟩ = some (.string (bs f0)) := Ka0.out.cell 0
    have ca01 : v1.cell? ⟨v0.heap.size, 1, none⟩ = some (.string (bs t0)) := Ka0.out.cell 1
    have ca02 : v1.cell? ⟨v0.heap.size, 2, none⟩ = some (.bool z0) := Ka0.out.cell 2
    have la0 : v0.heap.size < v1.heap.size := Ka0.out.lt
    have ca10 : v1.cell? ⟨v0.heap.size + 1, 0, none⟩ = some (.string (bs f1)) := Ka1.out.cell 0
    have ca11 : v1.cell? ⟨v0.heap.size + 1, 1, none⟩ = some (.string (bs t1)) := Ka1.out.cell 1
    have ca12 : v1.cell? ⟨v0.heap.size + 1, 2, none⟩ = some (.bool z1) := Ka1.out.cell 2
    have la1 : v0.heap.size + 1 < v1.heap.size := Ka1.out.lt
    go_wp2_with fail
    refine (HS.out _).mono ?_
    rintro e v2 ⟨rfl, hb2⟩
    clear ca00 ca01 ca02 la0 ca10 ca11 ca12 la1
    have Ka0 := Lib.hid ((Ka0.out.alloc (.cells #[.string (bs fo), .string (bs to), .bool zo] 32)).on hb2)
    have Ka1 := Lib.hid ((Ka1.out.alloc (.cells #[.string (bs fo), .string (bs to), .bool zo] 32)).on hb2)
    have Kbo := Lib.hid (((Blk.new v1 32 #[.string (bs fo), .string (bs to), .bool zo])).on hb2)
    have HB := Lib.hid ((bel_al HB.out (.cells #[.string (bs fo), .string (bs to), .bool zo] 32)).trans (hb2.mono (bel_al HB.out (.cells #[.string (bs fo), .string (bs to), .bool zo] 32)).size))
    clear hb2
    have ca00 : v2.cell? ⟨v0.heap.size, 0, none⟩ = some (.string (bs f0)) := Ka0.out.cell 0
    have ca01 : v2.cell? ⟨v0.heap.size, 1, none⟩ = some (.string (bs t0)) := Ka0.out.cell 1
    have ca02 : v2.cell? ⟨v0.heap.size, 2, none⟩ = some (.bool z0) := Ka0.out.cell 2
    have la0 : v0.heap.size < v2.heap.size := Ka0.out.lt
    have ca10 : v2.cell? ⟨v0.heap.size + 1, 0, none⟩ = some (.string (bs f1)) := Ka1.out.cell 0
    have ca11 : v2.cell? ⟨v0.heap.size + 1, 1, none⟩ = some (.string (bs t1)) := Ka1.out.cell 1
    have ca12 : v2.cell? ⟨v0.heap.size + 1, 2, none⟩ = some (.bool z1) := Ka1.out.cell 2
    have la1 : v0.heap.size + 1 < v2.heap.size := Ka1.out.lt
    have cbo0 : v2.cell? ⟨v1.heap.size, 0, none⟩ = some (.string (bs fo)) := Kbo.out.cell 0
    have cbo1 : v2.cell? ⟨v1.heap.size, 1, none⟩ = some (.string (bs to)) := Kbo.out.cell 1
    have cbo2 : v2.cell? ⟨v1.heap.size, 2, none⟩ = some (.bool zo) := Kbo.out.cell 2
    have lbo : v1.heap.size < v2.heap.size := Kbo.out.lt
    clear HI HS
    obtain ⟨e1, e2, e3⟩ := swapMeet_law hR
    have H1 : Hid (∀ W, Calls Tryd.prog 42 #[.agg #[.string (bs f1), .string (bs t1), .bool z1], .agg #[.string (bs f0), .string (bs t0), .bool z0]] W fun e w' => e = .returned (.tuple #[.agg #[.string (bs fo), .string (bs to), .bool zo], .bool true]) ∧ Below W.heap.size W w') := fun W => by
      have h := implMeet_any f1 t1 f0 t0 z1 z0 (by omega) (by omega) (by omega) (by omega) W
      rw [e1] at h
      exact h
    have H2 : Hid (∀ W, Calls Tryd.prog 39 #[.agg #[.string (bs fo), .string (bs to), .bool zo], .agg #[.string (bs f0), .string (bs t0), .bool z0]] W fun e w' => e = .returned (.bool true) ∧ Below W.heap.size W w') := fun W => by
      have h := implBelow_any fo to f0 t0 zo z0 W
      rw [e2] at h
      exact h
    have H3 : Hid (∀ W, Calls Tryd.prog 39 #[.agg #[.string (bs fo), .string (bs to), .bool zo], .agg #[.string (bs f1), .string (bs t1), .bool z1]] W fun e w' => e = .returned (.bool true) ∧ Below W.heap.size W w') := fun W => by
      have h := implBelow_any fo to f1 t1 zo z1 W
      rw [e3] at h
      exact h
    clear hR e1 e2 e3 hx0 hy0 hx1 hy1
    go_wp2_with fail
    refine (H1.out _).mono ?_
    rintro e v3 ⟨rfl, hb3⟩
    clear ca00 ca01 ca02 la0 ca10 ca11 ca12 la1 cbo0 cbo1 cbo2 lbo
    have Ka0 := Lib.hid ((Ka0.out.alloc (.cells #[.string (bs fo), .string (bs to), .bool zo] 32)).on hb3)
    have Ka1 := Lib.hid ((Ka1.out.alloc (.cells #[.string (bs fo), .string (bs to), .bool zo] 32)).on hb3)
    have Kbo := Lib.hid ((Kbo.out.alloc (.cells #[.string (bs fo), .string (bs to), .bool zo] 32)).on hb3)
    have Kbw := Lib.hid (((Blk.new v2 32 #[.string (bs fo), .string (bs to), .bool zo])).on hb3)
    have HB := Lib.hid ((bel_al HB.out (.cells #[.string (bs fo), .string (bs to), .bool zo] 32)).trans (hb3.mono (bel_al HB.out (.cells #[.string (bs fo), .string (bs to), .bool zo] 32)).size))
    clear hb3
    have ca00 : v3.cell? ⟨v0.heap.size, 0, none⟩ = some (.string (bs f0)) := Ka0.out.cell 0
    have ca01 : v3.cell? ⟨v0.heap.size, 1, none⟩ = some (.string (bs t0)) := Ka0.out.cell 1
    have ca02 : v3.cell? ⟨v0.heap.size, 2, none⟩ = some (.bool z0) := Ka0.out.cell 2
    have la0 : v0.heap.size < v3.heap.size := Ka0.out.lt
    have ca10 : v3.cell? ⟨v0.heap.size + 1, 0, none⟩ = some (.string (bs f1)) := Ka1.out.cell 0
    have ca11 : v3.cell? ⟨v0.heap.size + 1, 1, none⟩ = some (.string (bs t1)) := Ka1.out.cell 1
    have ca12 : v3.cell? ⟨v0.heap.size + 1, 2, none⟩ = some (.bool z1) := Ka1.out.cell 2
    have la1 : v0.heap.size + 1 < v3.heap.size := Ka1.out.lt
    have cbo0 : v3.cell? ⟨v1.heap.size, 0, none⟩ = some (.string (bs fo)) := Kbo.out.cell 0
    have cbo1 : v3.cell? ⟨v1.heap.size, 1, none⟩ = some (.string (bs to)) := Kbo.out.cell 1
    have cbo2 : v3.cell? ⟨v1.heap.size, 2, none⟩ = some (.bool zo) := Kbo.out.cell 2
    have lbo : v1.heap.size < v3.heap.size := Kbo.out.lt
    have cbw0 : v3.cell? ⟨v2.heap.size, 0, none⟩ = some (.string (bs fo)) := Kbw.out.cell 0
    have cbw1 : v3.cell? ⟨v2.heap.size, 1, none⟩ = some (.string (bs to)) := Kbw.out.cell 1
    have cbw2 : v3.cell? ⟨v2.heap.size, 2, none⟩ = some (.bool zo) := Kbw.out.cell 2
    have lbw : v2.heap.size < v3.heap.size := Kbw.out.lt
    clear H1
    go_wp2_with fail
    refine (H2.out _).mono ?_
    rintro e v4 ⟨rfl, hb4⟩
    clear ca00 ca01 ca02 la0 ca10 ca11 ca12 la1 cbo0 cbo1 cbo2 lbo cbw0 cbw1 cbw2 lbw
    have Ka0 := Lib.hid ((Ka0.out.alloc (.cells #[.string (bs fo), .string (bs to), .bool zo] 32)).on hb4)
    have Ka1 := Lib.hid ((Ka1.out.alloc (.cells #[.string (bs fo), .string (bs to), .bool zo] 32)).on hb4)
    have Kbo := Lib.hid ((Kbo.out.alloc (.cells #[.string (bs fo), .string (bs to), .bool zo] 32)).on hb4)
    have Kbw := Lib.hid ((Kbw.out.alloc (.cells #[.string (bs fo), .string (bs to), .bool zo] 32)).on hb4)
    have Kx := Lib.hid (((Blk.new v3 32 #[.string (bs fo), .string (bs to), .bool zo])).on hb4)
    have HB := Lib.hid ((bel_al HB.out (.cells #[.string (bs fo), .string (bs to), .bool zo] 32)).trans (hb4.mono (bel_al HB.out (.cells #[.string (bs fo), .string (bs to), .bool zo] 32)).size))
    clear hb4
    have ca00 : v4.cell? ⟨v0.heap.size, 0, none⟩ = some (.string (bs f0)) := Ka0.out.cell 0
    have ca01 : v4.cell? ⟨v0.heap.size, 1, none⟩ = some (.string (bs t0)) := Ka0.out.cell 1
    have ca02 : v4.cell? ⟨v0.heap.size, 2, none⟩ = some (.bool z0) := Ka0.out.cell 2
    have la0 : v0.heap.size < v4.heap.size := Ka0.out.lt
    have ca10 : v4.cell? ⟨v0.heap.size + 1, 0, none⟩ = some (.string (bs f1)) := Ka1.out.cell 0
    have ca11 : v4.cell? ⟨v0.heap.size + 1, 1, none⟩ = some (.string (bs t1)) := Ka1.out.cell 1
    have ca12 : v4.cell? ⟨v0.heap.size + 1, 2, none⟩ = some (.bool z1) := Ka1.out.cell 2
    have la1 : v0.heap.size + 1 < v4.heap.size := Ka1.out.lt
    have cbo0 : v4.cell? ⟨v1.heap.size, 0, none⟩ = some (.string (bs fo)) := Kbo.out.cell 0
    have cbo1 : v4.cell? ⟨v1.heap.size, 1, none⟩ = some (.string (bs to)) := Kbo.out.cell 1
    have cbo2 : v4.cell? ⟨v1.heap.size, 2, none⟩ = some (.bool zo) := Kbo.out.cell 2
    have lbo : v1.heap.size < v4.heap.size := Kbo.out.lt
    have cbw0 : v4.cell? ⟨v2.heap.size, 0, none⟩ = some (.string (bs fo)) := Kbw.out.cell 0
    have cbw1 : v4.cell? ⟨v2.heap.size, 1, none⟩ = some (.string (bs to)) := Kbw.out.cell 1
    have cbw2 : v4.cell? ⟨v2.heap.size, 2, none⟩ = some (.bool zo) := Kbw.out.cell 2
    have lbw : v2.heap.size < v4.heap.size := Kbw.out.lt
    have cx0 : v4.cell? ⟨v3.heap.size, 0, none⟩ = some (.string (bs fo)) := Kx.out.cell 0
    have cx1 : v4.cell? ⟨v3.heap.size, 1, none⟩ = some (.string (bs to)) := Kx.out.cell 1
    have cx2 : v4.cell? ⟨v3.heap.size, 2, none⟩ = some (.bool zo) := Kx.out.cell 2
    have lx : v3.heap.size < v4.heap.size := Kx.out.lt
    clear H2
    go_wp2_with fail
    refine (H3.out _).mono ?_
    rintro e v5 ⟨rfl, hb5⟩
    clear ca00 ca01 ca02 la0 ca10 ca11 ca12 la1 cbo0 cbo1 cbo2 lbo cbw0 cbw1 cbw2 lbw cx0 cx1 cx2 lx
    have Ka0 := Lib.hid ((Ka0.out).on hb5)
    have Ka1 := Lib.hid ((Ka1.out).on hb5)
    have Kbo := Lib.hid ((Kbo.out).on hb5)
    have Kbw := Lib.hid ((Kbw.out).on hb5)
    have Kx := Lib.hid ((Kx.out).on hb5)
    have HB := Lib.hid (HB.out.trans (hb5.mono HB.out.size))
    clear hb5
    have ca00 : v5.cell? ⟨v0.heap.size, 0, none⟩ = some (.string (bs f0)) := Ka0.out.cell 0
    have ca01 : v5.cell? ⟨v0.heap.size, 1, none⟩ = some (.string (bs t0)) := Ka0.out.cell 1
    have ca02 : v5.cell? ⟨v0.heap.size, 2, none⟩ = some (.bool z0) := Ka0.out.cell 2
    have la0 : v0.heap.size < v5.heap.size := Ka0.out.lt
    have ca10 : v5.cell? ⟨v0.heap.size + 1, 0, none⟩ = some (.string (bs f1)) := Ka1.out.cell 0
    have ca11 : v5.cell? ⟨v0.heap.size + 1, 1, none⟩ = some (.string (bs t1)) := Ka1.out.cell 1
    have ca12 : v5.cell? ⟨v0.heap.size + 1, 2, none⟩ = some (.bool z1) := Ka1.out.cell 2
    have la1 : v0.heap.size + 1 < v5.heap.size := Ka1.out.lt
    have cbo0 : v5.cell? ⟨v1.heap.size, 0, none⟩ = some (.string (bs fo)) := Kbo.out.cell 0
    have cbo1 : v5.cell? ⟨v1.heap.size, 1, none⟩ = some (.string (bs to)) := Kbo.out.cell 1
    have cbo2 : v5.cell? ⟨v1.heap.size, 2, none⟩ = some (.bool zo) := Kbo.out.cell 2
    have lbo : v1.heap.size < v5.heap.size := Kbo.out.lt
    have cbw0 : v5.cell? ⟨v2.heap.size, 0, none⟩ = some (.string (bs fo)) := Kbw.out.cell 0
    have cbw1 : v5.cell? ⟨v2.heap.size, 1, none⟩ = some (.string (bs to)) := Kbw.out.cell 1
    have cbw2 : v5.cell? ⟨v2.heap.size, 2, none⟩ = some (.bool zo) := Kbw.out.cell 2
    have lbw : v2.heap.size < v5.heap.size := Kbw.out.lt
    have cx0 : v5.cell? ⟨v3.heap.size, 0, none⟩ = some (.string (bs fo)) := Kx.out.cell 0
    have cx1 : v5.cell? ⟨v3.heap.size, 1, none⟩ = some (.string (bs to)) := Kx.out.cell 1
    have cx2 : v5.cell? ⟨v3.heap.size, 2, none⟩ = some (.bool zo) := Kx.out.cell 2
    have lx : v3.heap.size < v5.heap.size := Kx.out.lt
    clear H3
    go_wp2
    go_ret
    exact ⟨by try rfl, HB.out⟩

/-! ### THE ROW's STEP -/
abbrev laidL : List (String × DataW Unit) := [("unicode/utf8.acceptRanges", Rows.laid_unicode_utf8_acceptRanges), ("unicode/utf8.first", Rows.laid_unicode_utf8_first)]
theorem laidWorld_met (os : Os) (args : Array Value) : laidMetH Tryd.prog laidL ((World.laidAll Tryd.prog os laidL).forCall (fun _ _ => 0) ⟨#[], args, []⟩).memory :=
  laidMetH_of_parts (laidMet_laidAll _ (by kernel_rfl) (by kernel_rfl)) (by kernel_rfl)

set_option maxRecDepth 100000 in
theorem lifted (os : Os) (started : os.Started) (H : Type) (enc : TypeId × Value → H) :
    ReturnsInHanded {} Tryd.checked os 13 .any (fun w args => (Rows.fnSwapMeetSpec.pre enc Tryd.prog Tryd.f13 [] false w args ∧ laidMetH Tryd.prog laidL w) ∧ sizedMet enc Tryd.prog Tryd.f13 (OpenSpec.ofChange Rows.fnSwapMeetSpec) false w args) (Rows.fnSwapMeetSpec.post enc Tryd.prog Tryd.f13 false true false false) := by
  refine returnsInHanded_of_change_and (C := Tryd.checked) (X := fun w _ => laidMetH Tryd.prog laidL w) (fun _ _ _ hh h => h.of_heap hh) own started (by kernel_rfl) Tryd.func13
    (ChangeSpec.witness_shaped (enc := enc) (C := Tryd.checked) (os := os) (X := fun w _ => laidMetH Tryd.prog laidL w) false (World.laidAll Tryd.prog os laidL) #[.slice none 0 0] 8 rfl (World.shaped_of_ZipB (by kernel_rfl) (by kernel_rfl)) (by kernel_rfl) (by kernel_rfl) (by kernel_rfl) (laidWorld_met os _)) ?_
  intro W base args ds gs before hval0 hW _ _ hL _
  have hval : ∀ (j : Nat) t v, Tryd.f13.params[j]? = some t → args[j]? = some v → Value.okWide Tryd.prog W .any base t v := hval0
  have hW' := hW
  obtain ⟨p, q, hA0, hV, rfl, hfz, hnd⟩ := hW
  have hA : DataW.TrodAll enc Tryd.prog W 0 (fun _ => true) true Tryd.f13.params.toList args.toList ds p := hA0
  rw [Tryd.params13] at hA hval
  obtain ⟨v0, vs0, d0, ds0, p0, qq0, hargs, rfl, rfl, h0, r0⟩ := trodAll_cons hA
  obtain ⟨rfl, rfl, rfl⟩ := trodAll_nil r0
  obtain rfl : args = #[v0] := by cases args; simp_all
  obtain ⟨rfl, rfl⟩ := trodVars_none hV
  obtain ⟨a0, len0, cap0, rfl⟩ := okWide_slice Tryd.underlying22 (hval 0 22 v0 rfl rfl)
  have k0 := h0
  have lt0 : ∀ x ∈ p0, x.block < W.heap.size := by obtain ⟨m, hm⟩ := k0; exact DataW.trod_lt m _ _ _ hm
  obtain ⟨z0, w0⟩ : ∃ zs, IsRow .u8 W a0 len0 cap0 zs := by
    obtain ⟨fuel, hf⟩ := h0
    rcases open_ints Tryd.underlying22 Tryd.underlying5 (by kernel_rfl) hf with ⟨hcs, _⟩ | ⟨x, l, c, zs, hcs, _, hl, hm, hz, _, hcell, hwz⟩
    · simp [Value.cells] at hcs
      obtain ⟨rfl, rfl, rfl⟩ := hcs
      exact ⟨[], .inl ⟨rfl, rfl, rfl, rfl⟩⟩
    · simp [Value.cells] at hcs
      obtain ⟨rfl, rfl, rfl⟩ := hcs
      exact ⟨zs, .inr ⟨_, rfl, hl, hm, by simpa using hz, hcell, hwz⟩⟩
  clear hA0 hval0
  refine (walk a0 len0 cap0 z0 W trivial w0).mono fun e W' ⟨he, bel⟩ => ?_
  subst he
  exact ⟨_, rfl, _, _, _, [], _, [], hW', trodAll_mk1 (shut_bool Tryd.underlying4 _), (trodAll_cons_mk (Below.trod laidOut (by kernel_rfl) (of_decide_eq_true (by kernel_rfl)) k0 bel lt0) trodAll_mk0), rfl, bel.frame _, fun h => by cases h⟩

theorem over : Rows.fnSwapMeetRow.holds Tryd.pinned (OpenSpec.ofChange Rows.fnSwapMeetSpec) :=
  OpenClaim.holds_of_wide 13 Tryd.f13 rfl rfl rfl rfl rfl rfl rfl ⟨rfl, rfl, rfl, rfl, rfl⟩ rfl rfl rfl rfl rfl (by kernel_rfl) Tryd.func13 (by kernel_rfl)
    (of_decide_eq_true (by kernel_rfl)) (by unfold Func.isWrapper; first | (rw [if_pos (by decide +kernel)]; kernel_rfl) | (rw [if_neg (by decide +kernel)]; exact ⟨rfl, rfl⟩))
    (fun os started H enc _ => lifted os started H enc)

theorem proved : Rows.FnSwapMeetCardSaid :=
  Claim7.holds_tied_plain_at .later [] [.data, .pinned] true _ true
    over (fun _ h => by cases h) (by kernel_rfl) (fun _ h => by cases h) fnSwapMeet_row_tie rfl ⟨rfl, rfl⟩ (by kernel_rfl) rfl
    (fun f fn hf hfn => by
      obtain rfl : f = 13 := Option.some.inj ((show Tryd.prog.funcNamed Rows.fnSwapMeetRow.func = some 13 by kernel_rfl).symm.trans hf) |>.symm
      obtain rfl : fn = Tryd.f13 := (Option.some.inj (Tryd.func13.symm.trans hfn)).symm
      exact ⟨by kernel_rfl, fun j t ht => by
        rw [Tryd.params13] at ht
        rcases j with _ | j
        · have h0 : t = 22 := by simpa using ht.symm
          subst h0
          exact (show Tryd.prog.wantsStandIn 22 = false by kernel_rfl)
        simp at ht⟩)
    (by kernel_rfl)
#print axioms proved
end Go.Proofs.YtdljndpobklkjaaDoor.fnSwapMeet

