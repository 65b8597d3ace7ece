/-
  FnSwapTimes: for every input the law returns true and leaves its arguments as they were. No condition.
-/
import Derived.Test.YtdljndpobklkjaaDoorRows
import Derived.Test.YtdljndpobklkjaaDoorCards
import Derived.Test.YtdljndpobklkjaaDoorTie
import Derived.Test.YtdljndpobklkjaaDoorDr7
import Derived.Test.YtdljndpobklkjaaDoorEq6
import Derived.Test.YtdljndpobklkjaaDoorSk
import Derived.WalkKit
import Derived.Deep.QuietTactic
import Derived.BigQuiet
import Derived.Outline
import Derived.ProofKit
import Derived.OpenShut
import Derived.ShutString
import Derived.ChangeOld
import Derived.Below
import Derived.ChangeSame
import Derived.ChangeVars
import Derived.JoinedOf
import Derived.RowKit
import Derived.RowKitTokens
import Derived.LaidLaws
import Derived.LaidHandle
import Derived.Stop.Joined
import Derived.SevenTiedAt
import Derived.Lay
namespace Go.Proofs.YtdljndpobklkjaaDoor.fnSwapTimes
set_option maxRecDepth 100000
open Go.ChangeShapes Go.WideShapes Go.ChangeAt Go.RowKit
open Go.ChangeMaps (open_string shut_string)
set_option linter.unusedVariables false

theorem own : ownKnob Tryd.prog.godebug = none := by kernel_rfl
theorem laidOut : laidOutB Tryd.prog = true := by kernel_rfl

def IsRow (k : IntKind) (w : World) (a : Option Addr) (len cap : Nat) (zs : List Int) : Prop :=
  (a = none ∧ len = 0 ∧ cap = 0 ∧ zs = []) ∨
  ∃ x, a = some x ∧ len ≤ cap ∧ cap ≤ maxLen ∧ zs.length = cap ∧ (∀ i, i < zs.length → w.cell? (x.add i) = some (.int k (zs.getD i 0))) ∧ ∀ n ∈ zs, (Lit.int k n).wf = true

theorem src_of {w : World} {a : Option Addr} {len cap : Nat} {zs : List Int} (h : IsRow .u8 w a len cap zs) : ∃ bs : Nat → Nat, Src w w.heap.size a len bs ∧ len ≤ cap := by
  rcases h with ⟨rfl, rfl, rfl, rfl⟩ | ⟨x, rfl, hlc, _, hz, hc, hw⟩
  · exact ⟨fun _ => 0, ⟨fun _ => (by decide : (0 : Nat) < 256), fun j hj => absurd hj (by omega)⟩, Nat.le_refl _⟩
  · have hr : ∀ j, 0 ≤ zs.getD j 0 ∧ zs.getD j 0 < 256 := fun j => by
      rcases Nat.lt_or_ge j zs.length with h | h
      · have := hw zs[j] (List.getElem_mem h)
        rw [List.getD_eq_getElem?_getD, List.getElem?_eq_getElem h]
        simp [Lit.wf] at this
        have h0 : IntKind.u8.min = 0 := by decide
        have h1 : IntKind.u8.max = 255 := by decide
        rw [h0, h1] at this
        simp
        omega
      · rw [List.getD_eq_getElem?_getD, List.getElem?_eq_none h]; simp
    refine ⟨fun j => (zs.getD j 0).toNat, ⟨fun j => by have := hr j; show (zs.getD j 0).toNat < 256; omega, fun j hj => ⟨x, rfl, ?_, ?_⟩⟩, hlc⟩
    · have := block_lt_of_cell (hc 0 (by omega)); rwa [block_of_add] at this
    · rw [hc j (by omega), Int.toNat_of_nonneg (hr j).1]

set_option maxHeartbeats 3000000 in
theorem walk (a0 : Option Addr) (len0 cap0 : Nat) (z0 : List Int) (w : World) (het : True) (w0 : IsRow .u8 w a0 len0 cap0 z0) :
    Calls Tryd.prog 7 #[.slice a0 len0 cap0] w fun e w' => e = .returned (.bool true) ∧ Below w.heap.size w w' := by
  have HET := Lib.hid het
  clear het
  obtain ⟨bb, hS, hlc⟩ := src_of w0
  clear w0
  by_cases hbig : 1048576 < len0
  · go_enter Tryd.func7, Tryd.ntmps7
    go_wp2
    go_ret
    exact ⟨rfl, Below.refl _ _⟩
  go_enter Tryd.func7, Tryd.ntmps7
  go_wp2_with fail
  refine (drawSwapTimes_any _ _ _ _ _ hS hlc (by omega)).mono ?_
  rintro e v0 ⟨x0, y0, x1, y1, z0, z1, rfl, hx0, hy0, hx1, hy1, hb0⟩
  obtain ⟨f0, rfl⟩ : ∃ l, x0 = bs l := ⟨_, (bs_of _).symm⟩
  obtain ⟨t0, rfl⟩ : ∃ l, y0 = bs l := ⟨_, (bs_of _).symm⟩
  obtain ⟨f1, rfl⟩ : ∃ l, x1 = bs l := ⟨_, (bs_of _).symm⟩
  obtain ⟨t1, rfl⟩ : ∃ l, y1 = bs l := ⟨_, (bs_of _).symm⟩
  rw [bs_size] at hx0 hy0 hx1 hy1
  have HB := Lib.hid hb0
  clear hS hlc hbig hb0
  have HI := Lib.hid (fun W => implTimes_any f0 t0 f1 t1 z0 z1 W)
  have HS := Lib.hid (fun W => specTimes_any f0 t0 f1 t1 z0 z1 (by omega) (by omega) (by omega) (by omega) W)
  rcases hR : timesS ⟨f0, t0, z0⟩ ⟨f1, t1, z1⟩ with ⟨⟨fo, to, zo⟩, bo⟩
  rw [hR, swV_mk] at HI HS
  dsimp only at HI HS
  have qo := sw_eql ((bs fo)) ((bs to)) zo
  have qon := sw_neq ((bs fo)) ((bs to)) zo
  have qog := fun op a b => sw_guard op a b #[.string (bs fo), .string (bs to), .bool zo] #[.string (bs fo), .string (bs to), .bool zo]
  cases bo with
  | false =>
    clear hR
    go_wp2_with fail
    refine (HI.out _).mono ?_
    rintro e v1 ⟨rfl, hb1⟩
    have Ka0 := Lib.hid (((Blk.new v0 32 #[.string (bs f0), .string (bs t0), .bool z0]).alloc (.cells #[.string (bs f1), .string (bs t1), .bool z1] 32)).on hb1)
    have Ka1 := Lib.hid ((blk_snd6 v0 32 32 #[.string (bs f0), .string (bs t0), .bool z0] #[.string (bs f1), .string (bs t1), .bool z1]).on hb1)
    have HB := Lib.hid ((bel_al (bel_al HB.out (.cells #[.string (bs f0), .string (bs t0), .bool z0] 32)) (.cells #[.string (bs f1), .string (bs t1), .bool z1] 32)).trans (hb1.mono (bel_al (bel_al HB.out (.cells #[.string (bs f0), .string (bs t0), .bool z0] 32)) (.cells #[.string (bs f1), .string (bs t1), .bool z1] 32)).size))
    clear hb1
    have ca00 : v1.cell? ⟨v0.heap.size, 0, none⟩ = some (.string (bs f0)) := Ka0.out.cell 0
    have ca01 : v1.cell? ⟨v0.heap.size, 1, none⟩ = some (.string (bs t0)) := Ka0.out.cell 1
    have ca02 : v1.cell? ⟨v0.heap.size, 2, none⟩ = some (.bool z0) := Ka0.out.cell 2
    have la0 : v0.heap.size < v1.heap.size := Ka0.out.lt
    have ca10 : v1.cell? ⟨v0.heap.size + 1, 0, none⟩ = some (.string (bs f1)) := Ka1.out.cell 0
    have ca11 : v1.cell? ⟨v0.heap.size + 1, 1, none⟩ = some (.string (bs t1)) := Ka1.out.cell 1
    have ca12 : v1.cell? ⟨v0.heap.size + 1, 2, none⟩ = some (.bool z1) := Ka1.out.cell 2
    have la1 : v0.heap.size + 1 < v1.heap.size := Ka1.out.lt
    go_wp2_with fail
    refine (HS.out _).mono ?_
    rintro e v2 ⟨rfl, hb2⟩
    clear ca00 ca01 ca02 la0 ca10 ca11 ca12 la1
    have Ka0 := Lib.hid ((Ka0.out.alloc (.cells #[.string (bs fo), .string (bs to), .bool zo] 32)).on hb2)
    have Ka1 := Lib.hid ((Ka1.out.alloc (.cells #[.string (bs fo), .string (bs to), .bool zo] 32)).on hb2)
    have Kbo := Lib.hid (((Blk.new v1 32 #[.string (bs fo), .string (bs to), .bool zo])).on hb2)
    have HB := Lib.hid ((bel_al HB.out (.cells #[.string (bs fo), .string (bs to), .bool zo] 32)).trans (hb2.mono (bel_al HB.out (.cells #[.string (bs fo), .string (bs to), .bool zo] 32)).size))
    clear hb2
    have ca00 : v2.cell? ⟨v0.heap.size, 0, none⟩ = some (.string (bs f0)) := Ka0.out.cell 0
    have ca01 : v2.cell? ⟨v0.heap.size, 1, none⟩ = some (.string (bs t0)) := Ka0.out.cell 1
    have ca02 : v2.cell? ⟨v0.heap.size, 2, none⟩ = some (.bool z0) := Ka0.out.cell 2
    have la0 : v0.heap.size < v2.heap.size := Ka0.out.lt
    have ca10 : v2.cell? ⟨v0.heap.size + 1, 0, none⟩ = some (.string (bs f1)) := Ka1.out.cell 0
    have ca11 : v2.cell? ⟨v0.heap.size + 1, 1, none⟩ = some (.string (bs t1)) := Ka1.out.cell 1
    have ca12 : v2.cell? ⟨v0.heap.size + 1, 2, none⟩ = some (.bool z1) := Ka1.out.cell 2
    have la1 : v0.heap.size + 1 < v2.heap.size := Ka1.out.lt
    have cbo0 : v2.cell? ⟨v1.heap.size, 0, none⟩ = some (.string (bs fo)) := Kbo.out.cell 0
    have cbo1 : v2.cell? ⟨v1.heap.size, 1, none⟩ = some (.string (bs to)) := Kbo.out.cell 1
    have cbo2 : v2.cell? ⟨v1.heap.size, 2, none⟩ = some (.bool zo) := Kbo.out.cell 2
    have lbo : v1.heap.size < v2.heap.size := Kbo.out.lt
    go_wp2
    go_ret
    exact ⟨by try rfl, (bel_al HB.out (.cells #[.string (bs fo), .string (bs to), .bool zo] 32))⟩
  | true =>
    go_wp2_with fail
    refine (HI.out _).mono ?_
    rintro e v1 ⟨rfl, hb1⟩
    have Ka0 := Lib.hid (((Blk.new v0 32 #[.string (bs f0), .string (bs t0), .bool z0]).alloc (.cells #[.string (bs f1), .string (bs t1), .bool z1] 32)).on hb1)
    have Ka1 := Lib.hid ((blk_snd6 v0 32 32 #[.string (bs f0), .string (bs t0), .bool z0] #[.string (bs f1), .string (bs t1), .bool z1]).on hb1)
    have HB := Lib.hid ((bel_al (bel_al HB.out (.cells #[.string (bs f0), .string (bs t0), .bool z0] 32)) (.cells #[.string (bs f1), .string (bs t1), .bool z1] 32)).trans (hb1.mono (bel_al (bel_al HB.out (.cells #[.string (bs f0), .string (bs t0), .bool z0] 32)) (.cells #[.string (bs f1), .string (bs t1), .bool z1] 32)).size))
    clear hb1
    have ca00 : v1.cell? ⟨v0.heap.size, 0, none⟩ = some (.string (bs f0)) := Ka0.out.cell 0
    have ca01 : v1.cell? ⟨v0.heap.size, 1, none⟩ = some (.string (bs t0)) := Ka0.out.cell 1
    have ca02 : v1.cell? ⟨v0.heap.size, 2, none⟩ = some (.bool z0) := Ka0.out.cell 2
    have la0 : v0.heap.size < v1.heap.size := Ka0.out.lt
    have ca10 : v1.cell? ⟨v0.heap.size + 1, 0, none⟩ = some (.string (bs f1)) := Ka1.out.cell 0
    have ca11 : v1.cell? ⟨v0.heap.size + 1, 1, none⟩ = some (.string (bs t1)) := Ka1.out.cell 1
    have ca12 : v1.cell? ⟨v0.heap.size + 1, 2, none⟩ = some (.bool z1) := Ka1.out.cell 2
    have la1 : v0.heap.size + 1 < v1.heap.size := Ka1.out.lt
    go_wp2_with fail
    refine (HS.out _).mono ?_
    rintro e v2 ⟨rfl, hb2⟩
    clear ca00 ca01 ca02 la0 ca10 ca11 ca12 la1
    have Ka0 := Lib.hid ((Ka0.out.alloc (.cells #[.string (bs fo), .string (bs to), .bool zo] 32)).on hb2)
    have Ka1 := Lib.hid ((Ka1.out.alloc (.cells #[.string (bs fo), .string (bs to), .bool zo] 32)).on hb2)
    have Kbo := Lib.hid (((Blk.new v1 32 #[.string (bs fo), .string (bs to), .bool zo])).on hb2)
    have HB := Lib.hid ((bel_al HB.out (.cells #[.string (bs fo), .string (bs to), .bool zo] 32)).trans (hb2.mono (bel_al HB.out (.cells #[.string (bs fo), .string (bs to), .bool zo] 32)).size))
    clear hb2
    have ca00 : v2.cell? ⟨v0.heap.size, 0, none⟩ = some (.string (bs f0)) := Ka0.out.cell 0
    have ca01 : v2.cell? ⟨v0.heap.size, 1, none⟩ = some (.string (bs t0)) := Ka0.out.cell 1
    have ca02 : v2.cell? ⟨v0.heap.size, 2, none⟩ = some (.bool z0) := Ka0.out.cell 2
    have la0 : v0.heap.size < v2.heap.size := Ka0.out.lt
    have ca10 : v2.cell? ⟨v0.heap.size + 1, 0, none⟩ = some (.string (bs f1)) := Ka1.out.cell 0
    have ca11 : v2.cell? ⟨v0.heap.size + 1, 1, none⟩ = some (.string (bs t1)) := Ka1.out.cell 1
    have ca12 : v2.cell? ⟨v0.heap.size + 1, 2, none⟩ = some (.bool z1) := Ka1.out.cell 2
    have la1 : v0.heap.size + 1 < v2.heap.size := Ka1.out.lt
    have cbo0 : v2.cell? ⟨v1.heap.size, 0, none⟩ = some (.string (bs fo)) := Kbo.out.cell 0
    have cbo1 : v2.cell? ⟨v1.heap.size, 1, none⟩ = some (.string (bs to)) := Kbo.out.cell 1
    have cbo2 : v2.cell? ⟨v1.heap.size, 2, none⟩ = some (.bool zo) := Kbo.out.cell 2
    have lbo : v1.heap.size < v2.heap.size := Kbo.out.lt
    clear HI HS
    obtain ⟨e0, e1, e2, e3, e4⟩ := swapTimes_law hR
    obtain ⟨i1, i2, i3, i4⟩ := times_eq hR
    have l0 := in_len i1
    have l1 := in_len i2
    have lo := in_len i4
    dsimp only at l0 l1 lo e0
    clear i1 i2 i3 i4
    obtain ⟨l00, l01⟩ := l0
    obtain ⟨l10, l11⟩ := l1
    obtain ⟨lo0, lo1⟩ := lo
    have hcat : bs f0 ++ bs f1 = bs (f0 ++ f1) := bs_app f0 f1
    have hcat2 : bs (f0 ++ f1) ++ ⟨#[48, 49]⟩ = bs (f0 ++ f1 ++ [48, 49]) := bs_app (f0 ++ f1) [48, 49]
    have hz := bs_size f0
    have hz1 := bs_size f1
    have hz2 : (⟨#[48, 49]⟩ : ByteArray).size = 2 := rfl
    have hz3 := bs_size (f0 ++ f1)
    have hz4 := bs_size (f0 ++ f1 ++ [48, 49])
    have hlx : (f0 ++ f1 ++ [48, 49]).length ≤ 42 := by rw [List.length_append, List.length_append]; show _ + _ + 2 ≤ _; omega
    rw [List.length_append] at hz3
    have HA := Lib.hid (fun W => implAct_any fo to zo (f0 ++ f1 ++ [48, 49]) (by omega) (by omega) W)
    have HC := Lib.hid (fun W => implAct_any f0 t0 z0 (f0 ++ f1 ++ [48, 49]) (by omega) (by omega) W)
    have H1 : Hid (∀ W, Calls Tryd.prog 26 #[.agg #[.string (bs fo), .string (bs to), .bool zo]] W fun e w' => e = .returned (.tuple #[.agg #[.string (bs to), .string (bs fo), .bool zo], .bool true]) ∧ Below W.heap.size W w') := fun W => by
      have h := implTurned_any fo to zo W
      rw [e1] at h
      exact h
    have H2 : Hid (∀ W, Calls Tryd.prog 26 #[.agg #[.string (bs f0), .string (bs t0), .bool z0]] W fun e w' => e = .returned (.tuple #[.agg #[.string (bs t0), .string (bs f0), .bool z0], .bool true]) ∧ Below W.heap.size W w') := fun W => by
      have h := implTurned_any f0 t0 z0 W
      rw [e2] at h
      exact h
    have H3 : Hid (∀ W, Calls Tryd.prog 26 #[.agg #[.string (bs f1), .string (bs t1), .bool z1]] W fun e w' => e = .returned (.tuple #[.agg #[.string (bs t1), .string (bs f1), .bool z1], .bool true]) ∧ Below W.heap.size W w') := fun W => by
      have h := implTurned_any f1 t1 z1 W
      rw [e3] at h
      exact h
    have H4 : Hid (∀ W, Calls Tryd.prog 27 #[.agg #[.string (bs t1), .string (bs f1), .bool z1], .agg #[.string (bs t0), .string (bs f0), .bool z0]] W fun e w' => e = .returned (.tuple #[.agg #[.string (bs to), .string (bs fo), .bool zo], .bool true]) ∧ Below W.heap.size W w') := fun W => by
      have h := implTimes_any t1 f1 t0 f0 z1 z0 W
      rw [show timesS ⟨t1, f1, z1⟩ ⟨t0, f0, z0⟩ = (turnS ⟨fo, to, zo⟩, true) from e4] at h
      exact h
    have qu := sw_eql ((bs to)) ((bs fo)) zo
    have qun := sw_neq ((bs to)) ((bs fo)) zo
    have qug := fun op a b => sw_guard op a b #[.string (bs to), .string (bs fo), .bool zo] #[.string (bs to), .string (bs fo), .bool zo]
    have hml : (movS ⟨f0, t0, z0⟩ (f0 ++ f1 ++ [48, 49])).1.length ≤ 100 := by
      rcases hm : movS ⟨f0, t0, z0⟩ (f0 ++ f1 ++ [48, 49]) with ⟨y, b⟩
      cases b with
      | true =>
        obtain ⟨_, _, h3⟩ := mov_eq hm
        obtain ⟨_, e, h4, h5⟩ := act_iff.1 h3
        have h6 := congrArg List.length h4
        have h7 := congrArg List.length h5
        simp only [List.length_append] at h6 h7 hlx
        show y.length ≤ 100
        omega
      | false =>
        unfold movS at hm
        split at hm
        · split at hm
          · injection hm with _ h; cases h
          · injection hm with h _; rw [← h]; exact Nat.zero_le _
        · injection hm with h _; rw [← h]; exact Nat.zero_le _
    have HD := Lib.hid (fun W => implAct_any f1 t1 z1 (movS ⟨f0, t0, z0⟩ (f0 ++ f1 ++ [48, 49])).1 (by omega) (by omega) W)
    clear hml
    generalize movS ⟨fo, to, zo⟩ (f0 ++ f1 ++ [48, 49]) = M1 at *
    generalize movS ⟨f0, t0, z0⟩ (f0 ++ f1 ++ [48, 49]) = M2 at *
    generalize movS ⟨f1, t1, z1⟩ M2.1 = M3 at *
    obtain ⟨m1, p1⟩ := M1
    obtain ⟨m2, p2⟩ := M2
    obtain ⟨m3, p3⟩ := M3
    dsimp only at e0 HA HC HD
    have HE : Hid (20 < (f0 ++ f1 ++ [48, 49]).length ∨ (p1 = (p2 && p3) ∧ (p1 = false ∨ m1 = m3))) := e0
    have hs1 : (bs f0).size + (bs f1).size ≤ 9223372036854775807 := by omega
    have hs2 : (bs (f0 ++ f1)).size + (⟨#[48, 49]⟩ : ByteArray).size ≤ 9223372036854775807 := by rw [hz2]; omega
    have hs3 : f0.length + f1.length ≤ 9223372036854775807 := by omega
    have hs4 : f0.length + f1.length + 2 ≤ 9223372036854775807 := by omega
    clear e0 e1 e2 e3 e4 hR hx0 hy0 hx1 hy1 l00 l01 l10 l11 lo0 lo1
    generalize hnx : (f0 ++ f1 ++ [48, 49]).length = nx at *
    generalize bs (f0 ++ f1 ++ [48, 49]) = xb at *
    clear hnx
    go_wp2_with fail
    refine (HA.out _).mono ?_
    rintro e v3 ⟨rfl, hb3⟩
    clear ca00 ca01 ca02 la0 ca10 ca11 ca12 la1 cbo0 cbo1 cbo2 lbo
    have Ka0 := Lib.hid ((Ka0.out.alloc (.cells #[.string (bs fo), .string (bs to), .bool zo] 32)).on hb3)
    have Ka1 := Lib.hid ((Ka1.out.alloc (.cells #[.string (bs fo), .string (bs to), .bool zo] 32)).on hb3)
    have Kbo := Lib.hid ((Kbo.out.alloc (.cells #[.string (bs fo), .string (bs to), .bool zo] 32)).on hb3)
    have Kbw := Lib.hid (((Blk.new v2 32 #[.string (bs fo), .string (bs to), .bool zo])).on hb3)
    have HB := Lib.hid ((bel_al HB.out (.cells #[.string (bs fo), .string (bs to), .bool zo] 32)).trans (hb3.mono (bel_al HB.out (.cells #[.string (bs fo), .string (bs to), .bool zo] 32)).size))
    clear hb3
    have ca00 : v3.cell? ⟨v0.heap.size, 0, none⟩ = some (.string (bs f0)) := Ka0.out.cell 0
    have ca01 : v3.cell? ⟨v0.heap.size, 1, none⟩ = some (.string (bs t0)) := Ka0.out.cell 1
    have ca02 : v3.cell? ⟨v0.heap.size, 2, none⟩ = some (.bool z0) := Ka0.out.cell 2
    have la0 : v0.heap.size < v3.heap.size := Ka0.out.lt
    have ca10 : v3.cell? ⟨v0.heap.size + 1, 0, none⟩ = some (.string (bs f1)) := Ka1.out.cell 0
    have ca11 : v3.cell? ⟨v0.heap.size + 1, 1, none⟩ = some (.string (bs t1)) := Ka1.out.cell 1
    have ca12 : v3.cell? ⟨v0.heap.size + 1, 2, none⟩ = some (.bool z1) := Ka1.out.cell 2
    have la1 : v0.heap.size + 1 < v3.heap.size := Ka1.out.lt
    have cbo0 : v3.cell? ⟨v1.heap.size, 0, none⟩ = some (.string (bs fo)) := Kbo.out.cell 0
    have cbo1 : v3.cell? ⟨v1.heap.size, 1, none⟩ = some (.string (bs to)) := Kbo.out.cell 1
    have cbo2 : v3.cell? ⟨v1.heap.size, 2, none⟩ = some (.bool zo) := Kbo.out.cell 2
    have lbo : v1.heap.size < v3.heap.size := Kbo.out.lt
    have cbw0 : v3.cell? ⟨v2.heap.size, 0, none⟩ = some (.string (bs fo)) := Kbw.out.cell 0
    have cbw1 : v3.cell? ⟨v2.heap.size, 1, none⟩ = some (.string (bs to)) := Kbw.out.cell 1
    have cbw2 : v3.cell? ⟨v2.heap.size, 2, none⟩ = some (.bool zo) := Kbw.out.cell 2
    have lbw : v2.heap.size < v3.heap.size := Kbw.out.lt
    clear HA
    go_wp2_with fail
    refine (HC.out _).mono ?_
    rintro e v4 ⟨rfl, hb4⟩
    clear ca00 ca01 ca02 la0 ca10 ca11 ca12 la1 cbo0 cbo1 cbo2 lbo cbw0 cbw1 cbw2 lbw
    have Ka0 := Lib.hid ((Ka0.out).on hb4)
    have Ka1 := Lib.hid ((Ka1.out).on hb4)
    have Kbo := Lib.hid ((Kbo.out).on hb4)
    have Kbw := Lib.hid ((Kbw.out).on hb4)
    have HB := Lib.hid (HB.out.trans (hb4.mono HB.out.size))
    clear hb4
    have ca00 : v4.cell? ⟨v0.heap.size, 0, none⟩ = some (.string (bs f0)) := Ka0.out.cell 0
    have ca01 : v4.cell? ⟨v0.heap.size, 1, none⟩ = some (.string (bs t0)) := Ka0.out.cell 1
    have ca02 : v4.cell? ⟨v0.heap.size, 2, none⟩ = some (.bool z0) := Ka0.out.cell 2
    have la0 : v0.heap.size < v4.heap.size := Ka0.out.lt
    have ca10 : v4.cell? ⟨v0.heap.size + 1, 0, none⟩ = some (.string (bs f1)) := Ka1.out.cell 0
    have ca11 : v4.cell? ⟨v0.heap.size + 1, 1, none⟩ = some (.string (bs t1)) := Ka1.out.cell 1
    have ca12 : v4.cell? ⟨v0.heap.size + 1, 2, none⟩ = some (.bool z1) := Ka1.out.cell 2
    have la1 : v0.heap.size + 1 < v4.heap.size := Ka1.out.lt
    have cbo0 : v4.cell? ⟨v1.heap.size, 0, none⟩ = some (.string (bs fo)) := Kbo.out.cell 0
    have cbo1 : v4.cell? ⟨v1.heap.size, 1, none⟩ = some (.string (bs to)) := Kbo.out.cell 1
    have cbo2 : v4.cell? ⟨v1.heap.size, 2, none⟩ = some (.bool zo) := Kbo.out.cell 2
    have lbo : v1.heap.size < v4.heap.size := Kbo.out.lt
    have cbw0 : v4.cell? ⟨v2.heap.size, 0, none⟩ = some (.string (bs fo)) := Kbw.out.cell 0
    have cbw1 : v4.cell? ⟨v2.heap.size, 1, none⟩ = some (.string (bs to)) := Kbw.out.cell 1
    have cbw2 : v4.cell? ⟨v2.heap.size, 2, none⟩ = some (.bool zo) := Kbw.out.cell 2
    have lbw : v2.heap.size < v4.heap.size := Kbw.out.lt
    clear HC
    go_wp2_with fail
    refine (HD.out _).mono ?_
    rintro e v5 ⟨rfl, hb5⟩
    clear ca00 ca01 ca02 la0 ca10 ca11 ca12 la1 cbo0 cbo1 cbo2 lbo cbw0 cbw1 cbw2 lbw
    have Ka0 := Lib.hid ((Ka0.out).on hb5)
    have Ka1 := Lib.hid ((Ka1.out).on hb5)
    have Kbo := Lib.hid ((Kbo.out).on hb5)
    have Kbw := Lib.hid ((Kbw.out).on hb5)
    have HB := Lib.hid (HB.out.trans (hb5.mono HB.out.size))
    clear hb5
    have ca00 : v5.cell? ⟨v0.heap.size, 0, none⟩ = some (.string (bs f0)) := Ka0.out.cell 0
    have ca01 : v5.cell? ⟨v0.heap.size, 1, none⟩ = some (.string (bs t0)) := Ka0.out.cell 1
    have ca02 : v5.cell? ⟨v0.heap.size, 2, none⟩ = some (.bool z0) := Ka0.out.cell 2
    have la0 : v0.heap.size < v5.heap.size := Ka0.out.lt
    have ca10 : v5.cell? ⟨v0.heap.size + 1, 0, none⟩ = some (.string (bs f1)) := Ka1.out.cell 0
    have ca11 : v5.cell? ⟨v0.heap.size + 1, 1, none⟩ = some (.string (bs t1)) := Ka1.out.cell 1
    have ca12 : v5.cell? ⟨v0.heap.size + 1, 2, none⟩ = some (.bool z1) := Ka1.out.cell 2
    have la1 : v0.heap.size + 1 < v5.heap.size := Ka1.out.lt
    have cbo0 : v5.cell? ⟨v1.heap.size, 0, none⟩ = some (.string (bs fo)) := Kbo.out.cell 0
    have cbo1 : v5.cell? ⟨v1.heap.size, 1, none⟩ = some (.string (bs to)) := Kbo.out.cell 1
    have cbo2 : v5.cell? ⟨v1.heap.size, 2, none⟩ = some (.bool zo) := Kbo.out.cell 2
    have lbo : v1.heap.size < v5.heap.size := Kbo.out.lt
    have cbw0 : v5.cell? ⟨v2.heap.size, 0, none⟩ = some (.string (bs fo)) := Kbw.out.cell 0
    have cbw1 : v5.cell? ⟨v2.heap.size, 1, none⟩ = some (.string (bs to)) := Kbw.out.cell 1
    have cbw2 : v5.cell? ⟨v2.heap.size, 2, none⟩ = some (.bool zo) := Kbw.out.cell 2
    have lbw : v2.heap.size < v5.heap.size := Kbw.out.lt
    clear HD
    go_wp2_with fail
    refine (H1.out _).mono ?_
    rintro e v6 ⟨rfl, hb6⟩
    clear ca00 ca01 ca02 la0 ca10 ca11 ca12 la1 cbo0 cbo1 cbo2 lbo cbw0 cbw1 cbw2 lbw
    have Ka0 := Lib.hid ((Ka0.out).on hb6)
    have Ka1 := Lib.hid ((Ka1.out).on hb6)
    have Kbo := Lib.hid ((Kbo.out).on hb6)
    have Kbw := Lib.hid ((Kbw.out).on hb6)
    have HB := Lib.hid (HB.out.trans (hb6.mono HB.out.size))
    clear hb6
    have ca00 : v6.cell? ⟨v0.heap.size, 0, none⟩ = some (.string (bs f0)) := Ka0.out.cell 0
    have ca01 : v6.cell? ⟨v0.heap.size, 1, none⟩ = some (.string (bs t0)) := Ka0.out.cell 1
    have ca02 : v6.cell? ⟨v0.heap.size, 2, none⟩ = some (.bool z0) := Ka0.out.cell 2
    have la0 : v0.heap.size < v6.heap.size := Ka0.out.lt
    have ca10 : v6.cell? ⟨v0.heap.size + 1, 0, none⟩ = some (.string (bs f1)) := Ka1.out.cell 0
    have ca11 : v6.cell? ⟨v0.heap.size + 1, 1, none⟩ = some (.string (bs t1)) := Ka1.out.cell 1
    have ca12 : v6.cell? ⟨v0.heap.size + 1, 2, none⟩ = some (.bool z1) := Ka1.out.cell 2
    have la1 : v0.heap.size + 1 < v6.heap.size := Ka1.out.lt
    have cbo0 : v6.cell? ⟨v1.heap.size, 0, none⟩ = some (.string (bs fo)) := Kbo.out.cell 0
    have cbo1 : v6.cell? ⟨v1.heap.size, 1, none⟩ = some (.string (bs to)) := Kbo.out.cell 1
    have cbo2 : v6.cell? ⟨v1.heap.size, 2, none⟩ = some (.bool zo) := Kbo.out.cell 2
    have lbo : v1.heap.size < v6.heap.size := Kbo.out.lt
    have cbw0 : v6.cell? ⟨v2.heap.size, 0, none⟩ = some (.string (bs fo)) := Kbw.out.cell 0
    have cbw1 : v6.cell? ⟨v2.heap.size, 1, none⟩ = some (.string (bs to)) := Kbw.out.cell 1
    have cbw2 : v6.cell? ⟨v2.heap.size, 2, none⟩ = some (.bool zo) := Kbw.out.cell 2
    have lbw : v2.heap.size < v6.heap.size := Kbw.out.lt
    clear H1
    go_wp2_with fail
    refine (H2.out _).mono ?_
    rintro e v7 ⟨rfl, hb7⟩
    clear ca00 ca01 ca02 la0 ca10 ca11 ca12 la1 cbo0 cbo1 cbo2 lbo cbw0 cbw1 cbw2 lbw
    have Ka0 := Lib.hid ((Ka0.out.alloc (.cells #[.string (bs to), .string (bs fo), .bool zo] 32)).on hb7)
    have Ka1 := Lib.hid ((Ka1.out.alloc (.cells #[.string (bs to), .string (bs fo), .bool zo] 32)).on hb7)
    have Kbo := Lib.hid ((Kbo.out.alloc (.cells #[.string (bs to), .string (bs fo), .bool zo] 32)).on hb7)
    have Kbw := Lib.hid ((Kbw.out.alloc (.cells #[.string (bs to), .string (bs fo), .bool zo] 32)).on hb7)
    have Ku := Lib.hid (((Blk.new v6 32 #[.string (bs to), .string (bs fo), .bool zo])).on hb7)
    have HB := Lib.hid ((bel_al HB.out (.cells #[.string (bs to), .string (bs fo), .bool zo] 32)).trans (hb7.mono (bel_al HB.out (.cells #[.string (bs to), .string (bs fo), .bool zo] 32)).size))
    clear hb7
    have ca00 : v7.cell? ⟨v0.heap.size, 0, none⟩ = some (.string (bs f0)) := Ka0.out.cell 0
    have ca01 : v7.cell? ⟨v0.heap.size, 1, none⟩ = some (.string (bs t0)) := Ka0.out.cell 1
    have ca02 : v7.cell? ⟨v0.heap.size, 2, none⟩ = some (.bool z0) := Ka0.out.cell 2
    have la0 : v0.heap.size < v7.heap.size := Ka0.out.lt
    have ca10 : v7.cell? ⟨v0.heap.size + 1, 0, none⟩ = some (.string (bs f1)) := Ka1.out.cell 0
    have ca11 : v7.cell? ⟨v0.heap.size + 1, 1, none⟩ = some (.string (bs t1)) := Ka1.out.cell 1
    have ca12 : v7.cell? ⟨v0.heap.size + 1, 2, none⟩ = some (.bool z1) := Ka1.out.cell 2
    have la1 : v0.heap.size + 1 < v7.heap.size := Ka1.out.lt
    have cbo0 : v7.cell? ⟨v1.heap.size, 0, none⟩ = some (.string (bs fo)) := Kbo.out.cell 0
    have cbo1 : v7.cell? ⟨v1.heap.size, 1, none⟩ = some (.string (bs to)) := Kbo.out.cell 1
    have cbo2 : v7.cell? ⟨v1.heap.size, 2, none⟩ = some (.bool zo) := Kbo.out.cell 2
    have lbo : v1.heap.size < v7.heap.size := Kbo.out.lt
    have cbw0 : v7.cell? ⟨v2.heap.size, 0, none⟩ = some (.string (bs fo)) := Kbw.out.cell 0
    have cbw1 : v7.cell? ⟨v2.heap.size, 1, none⟩ = some (.string (bs to)) := Kbw.out.cell 1
    have cbw2 : v7.cell? ⟨v2.heap.size, 2, none⟩ = some (.bool zo) := Kbw.out.cell 2
    have lbw : v2.heap.size < v7.heap.size := Kbw.out.lt
    have cu0 : v7.cell? ⟨v6.heap.size, 0, none⟩ = some (.string (bs to)) := Ku.out.cell 0
    have cu1 : v7.cell? ⟨v6.heap.size, 1, none⟩ = some (.string (bs fo)) := Ku.out.cell 1
    have cu2 : v7.cell? ⟨v6.heap.size, 2, none⟩ = some (.bool zo) := Ku.out.cell 2
    have lu : v6.heap.size < v7.heap.size := Ku.out.lt
    clear H2
    go_wp2_with fail
    refine (H3.out _).mono ?_
    rintro e v8 ⟨rfl, hb8⟩
    clear ca00 ca01 ca02 la0 ca10 ca11 ca12 la1 cbo0 cbo1 cbo2 lbo cbw0 cbw1 cbw2 lbw cu0 cu1 cu2 lu
    have Ka0 := Lib.hid ((Ka0.out.alloc (.cells #[.string (bs t0), .string (bs f0), .bool z0] 32)).on hb8)
    have Ka1 := Lib.hid ((Ka1.out.alloc (.cells #[.string (bs t0), .string (bs f0), .bool z0] 32)).on hb8)
    have Kbo := Lib.hid ((Kbo.out.alloc (.cells #[.string (bs t0), .string (bs f0), .bool z0] 32)).on hb8)
    have Kbw := Lib.hid ((Kbw.out.alloc (.cells #[.string (bs t0), .string (bs f0), .bool z0] 32)).on hb8)
    have Ku := Lib.hid ((Ku.out.alloc (.cells #[.string (bs t0), .string (bs f0), .bool z0] 32)).on hb8)
    have Kx := Lib.hid (((Blk.new v7 32 #[.string (bs t0), .string (bs f0), .bool z0])).on hb8)
    have HB := Lib.hid ((bel_al HB.out (.cells #[.string (bs t0), .string (bs f0), .bool z0] 32)).trans (hb8.mono (bel_al HB.out (.cells #[.string (bs t0), .string (bs f0), .bool z0] 32)).size))
    clear hb8
    have ca00 : v8.cell? ⟨v0.heap.size, 0, none⟩ = some (.string (bs f0)) := Ka0.out.cell 0
    have ca01 : v8.cell? ⟨v0.heap.size, 1, none⟩ = some (.string (bs t0)) := Ka0.out.cell 1
    have ca02 : v8.cell? ⟨v0.heap.size, 2, none⟩ = some (.bool z0) := Ka0.out.cell 2
    have la0 : v0.heap.size < v8.heap.size := Ka0.out.lt
    have ca10 : v8.cell? ⟨v0.heap.size + 1, 0, none⟩ = some (.string (bs f1)) := Ka1.out.cell 0
    have ca11 : v8.cell? ⟨v0.heap.size + 1, 1, none⟩ = some (.string (bs t1)) := Ka1.out.cell 1
    have ca12 : v8.cell? ⟨v0.heap.size + 1, 2, none⟩ = some (.bool z1) := Ka1.out.cell 2
    have la1 : v0.heap.size + 1 < v8.heap.size := Ka1.out.lt
    have cbo0 : v8.cell? ⟨v1.heap.size, 0, none⟩ = some (.string (bs fo)) := Kbo.out.cell 0
    have cbo1 : v8.cell? ⟨v1.heap.size, 1, none⟩ = some (.string (bs to)) := Kbo.out.cell 1
    have cbo2 : v8.cell? ⟨v1.heap.size, 2, none⟩ = some (.bool zo) := Kbo.out.cell 2
    have lbo : v1.heap.size < v8.heap.size := Kbo.out.lt
    have cbw0 : v8.cell? ⟨v2.heap.size, 0, none⟩ = some (.string (bs fo)) := Kbw.out.cell 0
    have cbw1 : v8.cell? ⟨v2.heap.size, 1, none⟩ = some (.string (bs to)) := Kbw.out.cell 1
    have cbw2 : v8.cell? ⟨v2.heap.size, 2, none⟩ = some (.bool zo) := Kbw.out.cell 2
    have lbw : v2.heap.size < v8.heap.size := Kbw.out.lt
    have cu0 : v8.cell? ⟨v6.heap.size, 0, none⟩ = some (.string (bs to)) := Ku.out.cell 0
    have cu1 : v8.cell? ⟨v6.heap.size, 1, none⟩ = some (.string (bs fo)) := Ku.out.cell 1
    have cu2 : v8.cell? ⟨v6.heap.size, 2, none⟩ = some (.bool zo) := Ku.out.cell 2
    have lu : v6.heap.size < v8.heap.size := Ku.out.lt
    have cx0 : v8.cell? ⟨v7.heap.size, 0, none⟩ = some (.string (bs t0)) := Kx.out.cell 0
    have cx1 : v8.cell? ⟨v7.heap.size, 1, none⟩ = some (.string (bs f0)) := Kx.out.cell 1
    have cx2 : v8.cell? ⟨v7.heap.size, 2, none⟩ = some (.bool z0) := Kx.out.cell 2
    have lx : v7.heap.size < v8.heap.size := Kx.out.lt
    clear H3
    go_wp2_with fail
    refine (H4.out _).mono ?_
    rintro e v9 ⟨rfl, hb9⟩
    clear ca00 ca01 ca02 la0 ca10 ca11 ca12 la1 cbo0 cbo1 cbo2 lbo cbw0 cbw1 cbw2 lbw cu0 cu1 cu2 lu cx0 cx1 cx2 lx
    have Ka0 := Lib.hid ((Ka0.out.alloc (.cells #[.string (bs t1), .string (bs f1), .bool z1] 32)).on hb9)
    have Ka1 := Lib.hid ((Ka1.out.alloc (.cells #[.string (bs t1), .string (bs f1), .bool z1] 32)).on hb9)
    have Kbo := Lib.hid ((Kbo.out.alloc (.cells #[.string (bs t1), .string (bs f1), .bool z1] 32)).on hb9)
    have Kbw := Lib.hid ((Kbw.out.alloc (.cells #[.string (bs t1), .string (bs f1), .bool z1] 32)).on hb9)
    have Ku := Lib.hid ((Ku.out.alloc (.cells #[.string (bs t1), .string (bs f1), .bool z1] 32)).on hb9)
    have Kx := Lib.hid ((Kx.out.alloc (.cells #[.string (bs t1), .string (bs f1), .bool z1] 32)).on hb9)
    have Ky := Lib.hid (((Blk.new v8 32 #[.string (bs t1), .string (bs f1), .bool z1])).on hb9)
    have HB := Lib.hid ((bel_al HB.out (.cells #[.string (bs t1), .string (bs f1), .bool z1] 32)).trans (hb9.mono (bel_al HB.out (.cells #[.string (bs t1), .string (bs f1), .bool z1] 32)).size))
    clear hb9
    have ca00 : v9.cell? ⟨v0.heap.size, 0, none⟩ = some (.string (bs f0)) := Ka0.out.cell 0
    have ca01 : v9.cell? ⟨v0.heap.size, 1, none⟩ = some (.string (bs t0)) := Ka0.out.cell 1
    have ca02 : v9.cell? ⟨v0.heap.size, 2, none⟩ = some (.bool z0) := Ka0.out.cell 2
    have la0 : v0.heap.size < v9.heap.size := Ka0.out.lt
    have ca10 : v9.cell? ⟨v0.heap.size + 1, 0, none⟩ = some (.string (bs f1)) := Ka1.out.cell 0
    have ca11 : v9.cell? ⟨v0.heap.size + 1, 1, none⟩ = some (.string (bs t1)) := Ka1.out.cell 1
    have ca12 : v9.cell? ⟨v0.heap.size + 1, 2, none⟩ = some (.bool z1) := Ka1.out.cell 2
    have la1 : v0.heap.size + 1 < v9.heap.size := Ka1.out.lt
    have cbo0 : v9.cell? ⟨v1.heap.size, 0, none⟩ = some (.string (bs fo)) := Kbo.out.cell 0
    have cbo1 : v9.cell? ⟨v1.heap.size, 1, none⟩ = some (.string (bs to)) := Kbo.out.cell 1
    have cbo2 : v9.cell? ⟨v1.heap.size, 2, none⟩ = some (.bool zo) := Kbo.out.cell 2
    have lbo : v1.heap.size < v9.heap.size := Kbo.out.lt
    have cbw0 : v9.cell? ⟨v2.heap.size, 0, none⟩ = some (.string (bs fo)) := Kbw.out.cell 0
    have cbw1 : v9.cell? ⟨v2.heap.size, 1, none⟩ = some (.string (bs to)) := Kbw.out.cell 1
    have cbw2 : v9.cell? ⟨v2.heap.size, 2, none⟩ = some (.bool zo) := Kbw.out.cell 2
    have lbw : v2.heap.size < v9.heap.size := Kbw.out.lt
    have cu0 : v9.cell? ⟨v6.heap.size, 0, none⟩ = some (.string (bs to)) := Ku.out.cell 0
    have cu1 : v9.cell? ⟨v6.heap.size, 1, none⟩ = some (.string (bs fo)) := Ku.out.cell 1
    have cu2 : v9.cell? ⟨v6.heap.size, 2, none⟩ = some (.bool zo) := Ku.out.cell 2
    have lu : v6.heap.size < v9.heap.size := Ku.out.lt
    have cx0 : v9.cell? ⟨v7.heap.size, 0, none⟩ = some (.string (bs t0)) := Kx.out.cell 0
    have cx1 : v9.cell? ⟨v7.heap.size, 1, none⟩ = some (.string (bs f0)) := Kx.out.cell 1
    have cx2 : v9.cell? ⟨v7.heap.size, 2, none⟩ = some (.bool z0) := Kx.out.cell 2
    have lx : v7.heap.size < v9.heap.size := Kx.out.lt
    have cy0 : v9.cell? ⟨v8.heap.size, 0, none⟩ = some (.string (bs t1)) := Ky.out.cell 0
    have cy1 : v9.cell? ⟨v8.heap.size, 1, none⟩ = some (.string (bs f1)) := Ky.out.cell 1
    have cy2 : v9.cell? ⟨v8.heap.size, 2, none⟩ = some (.bool z1) := Ky.out.cell 2
    have ly : v8.heap.size < v9.heap.size := Ky.out.lt
    clear H4
    by_cases hbg : 20 < nx
    · have hbgi : (20 : Int) < (nx : Int) := by omega
      clear HE hbg
      go_wp2
      go_ret
      exact ⟨by try rfl, (bel_al HB.out (.cells #[.string (bs to), .string (bs fo), .bool zo] 32))⟩
    have hbgi : ¬ (20 : Int) < (nx : Int) := by omega
    obtain ⟨hp, hm⟩ : p1 = (p2 && p3) ∧ (p1 = false ∨ m1 = m3) := by
      rcases HE.out with h | h
      · exact absurd h hbg
      · exact h
    clear HE hbg
    cases p2 with
    | false =>
      obtain rfl : p1 = false := hp
      clear hm
      go_wp2
      go_ret
      exact ⟨by try rfl, (bel_al HB.out (.cells #[.string (bs to), .string (bs fo), .bool zo] 32))⟩
    | true =>
      cases p3 with
      | false =>
        obtain rfl : p1 = false := hp
        clear hm
        go_wp2
        go_ret
        exact ⟨by try rfl, (bel_al HB.out (.cells #[.string (bs to), .string (bs fo), .bool zo] 32))⟩
      | true =>
        obtain rfl : p1 = true := hp
        obtain rfl : m1 = m3 := by
          rcases hm with h | h
          · cases h
          · exact h
        clear hm
        generalize bs m1 = mb at *
        have hss : (mb.toList == mb.toList) = true := by simp
        go_wp2
        go_ret
        exact ⟨by try rfl, (bel_al HB.out (.cells #[.string (bs to), .string (bs fo), .bool zo] 32))⟩

/-! ### THE ROW's STEP -/
abbrev laidL : List (String × DataW Unit) := [("unicode/utf8.acceptRanges", Rows.laid_unicode_utf8_acceptRanges), ("unicode/utf8.first", Rows.laid_unicode_utf8_first)]
theorem laidWorld_met (os : Os) (args : Array Value) : laidMetH Tryd.prog laidL ((World.laidAll Tryd.prog os laidL).forCall (fun _ _ => 0) ⟨#[], args, []⟩).memory :=
  laidMetH_of_parts (laidMet_laidAll _ (by kernel_rfl) (by kernel_rfl)) (by kernel_rfl)

set_option maxRecDepth 100000 in
theorem lifted (os : Os) (started : os.Started) (H : Type) (enc : TypeId × Value → H) :
    ReturnsInHanded {} Tryd.checked os 7 .any (fun w args => (Rows.fnSwapTimesSpec.pre enc Tryd.prog Tryd.f7 [] false w args ∧ laidMetH Tryd.prog laidL w) ∧ sizedMet enc Tryd.prog Tryd.f7 (OpenSpec.ofChange Rows.fnSwapTimesSpec) false w args) (Rows.fnSwapTimesSpec.post enc Tryd.prog Tryd.f7 false true false false) := by
  refine returnsInHanded_of_change_and (C := Tryd.checked) (X := fun w _ => laidMetH Tryd.prog laidL w) (fun _ _ _ hh h => h.of_heap hh) own started (by kernel_rfl) Tryd.func7
    (ChangeSpec.witness_shaped (enc := enc) (C := Tryd.checked) (os := os) (X := fun w _ => laidMetH Tryd.prog laidL w) false (World.laidAll Tryd.prog os laidL) #[.slice none 0 0] 8 rfl (World.shaped_of_ZipB (by kernel_rfl) (by kernel_rfl)) (by kernel_rfl) (by kernel_rfl) (by kernel_rfl) (laidWorld_met os _)) ?_
  intro W base args ds gs before hval0 hW _ _ hL _
  have hval : ∀ (j : Nat) t v, Tryd.f7.params[j]? = some t → args[j]? = some v → Value.okWide Tryd.prog W .any base t v := hval0
  have hW' := hW
  obtain ⟨p, q, hA0, hV, rfl, hfz, hnd⟩ := hW
  have hA : DataW.TrodAll enc Tryd.prog W 0 (fun _ => true) true Tryd.f7.params.toList args.toList ds p := hA0
  rw [Tryd.params7] at hA hval
  obtain ⟨v0, vs0, d0, ds0, p0, qq0, hargs, rfl, rfl, h0, r0⟩ := trodAll_cons hA
  obtain ⟨rfl, rfl, rfl⟩ := trodAll_nil r0
  obtain rfl : args = #[v0] := by cases args; simp_all
  obtain ⟨rfl, rfl⟩ := trodVars_none hV
  obtain ⟨a0, len0, cap0, rfl⟩ := okWide_slice Tryd.underlying22 (hval 0 22 v0 rfl rfl)
  have k0 := h0
  have lt0 : ∀ x ∈ p0, x.block < W.heap.size := by obtain ⟨m, hm⟩ := k0; exact DataW.trod_lt m _ _ _ hm
  obtain ⟨z0, w0⟩ : ∃ zs, IsRow .u8 W a0 len0 cap0 zs := by
    obtain ⟨fuel, hf⟩ := h0
    rcases open_ints Tryd.underlying22 Tryd.underlying5 (by kernel_rfl) hf with ⟨hcs, _⟩ | ⟨x, l, c, zs, hcs, _, hl, hm, hz, _, hcell, hwz⟩
    · simp [Value.cells] at hcs
      obtain ⟨rfl, rfl, rfl⟩ := hcs
      exact ⟨[], .inl ⟨rfl, rfl, rfl, rfl⟩⟩
    · simp [Value.cells] at hcs
      obtain ⟨rfl, rfl, rfl⟩ := hcs
      exact ⟨zs, .inr ⟨_, rfl, hl, hm, by simpa using hz, hcell, hwz⟩⟩
  clear hA0 hval0
  refine (walk a0 len0 cap0 z0 W trivial w0).mono fun e W' ⟨he, bel⟩ => ?_
  subst he
  exact ⟨_, rfl, _, _, _, [], _, [], hW', trodAll_mk1 (shut_bool Tryd.underlying4 _), (trodAll_cons_mk (Below.trod laidOut (by kernel_rfl) (of_decide_eq_true (by kernel_rfl)) k0 bel lt0) trodAll_mk0), rfl, bel.frame _, fun h => by cases h⟩

theorem over : Rows.fnSwapTimesRow.holds Tryd.pinned (OpenSpec.ofChange Rows.fnSwapTimesSpec) :=
  OpenClaim.holds_of_wide 7 Tryd.f7 rfl rfl rfl rfl rfl rfl rfl ⟨rfl, rfl, rfl, rfl, rfl⟩ rfl rfl rfl rfl rfl (by kernel_rfl) Tryd.func7 (by kernel_rfl)
    (of_decide_eq_true (by kernel_rfl)) (by unfold Func.isWrapper; first | (rw [if_pos (by decide +kernel)]; kernel_rfl) | (rw [if_neg (by decide +kernel)]; exact ⟨rfl, rfl⟩))
    (fun os started H enc _ => lifted os started H enc)

theorem proved : Rows.FnSwapTimesCardSaid :=
  Claim7.holds_tied_plain_at .later [] [.data, .pinned] true _ true
    over (fun _ h => by cases h) (by kernel_rfl) (fun _ h => by cases h) fnSwapTimes_row_tie rfl ⟨rfl, rfl⟩ (by kernel_rfl) rfl
    (fun f fn hf hfn => by
      obtain rfl : f = 7 := Option.some.inj ((show Tryd.prog.funcNamed Rows.fnSwapTimesRow.func = some 7 by kernel_rfl).symm.trans hf) |>.symm
      obtain rfl : fn = Tryd.f7 := (Option.some.inj (Tryd.func7.symm.trans hfn)).symm
      exact ⟨by kernel_rfl, fun j t ht => by
        rw [Tryd.params7] at ht
        rcases j with _ | j
        · have h0 : t = 22 := by simpa using ht.symm
          subst h0
          exact (show Tryd.prog.wantsStandIn 22 = false by kernel_rfl)
        simp at ht⟩)
    (by kernel_rfl)
#print axioms proved
end Go.Proofs.YtdljndpobklkjaaDoor.fnSwapTimes

