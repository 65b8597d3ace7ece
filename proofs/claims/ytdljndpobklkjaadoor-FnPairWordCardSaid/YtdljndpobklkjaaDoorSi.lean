/-
  Which swaps are as told, on both sides: spec.SwapIn, impl.isTold, impl.SwapIn.
-/
import Derived.Test.YtdljndpobklkjaaDoorSt6
namespace Go.Proofs.YtdljndpobklkjaaDoor
set_option maxRecDepth 100000
set_option linter.unusedVariables false
open Go.RowKit

theorem bs_emp (l : List UInt8) : (bs l).toList.isEmpty = l.isEmpty := by rw [bs_list]
set_option maxHeartbeats 1000000 in
theorem specIn_any (f t : List UInt8) (n : Bool) (hf : f.length ≤ 4000000000) (ht : t.length ≤ 4000000000) (w : World) : Calls Tryd.prog 25 #[.agg #[.string (bs f), .string (bs t), .bool n]] w fun e w' => e = .returned (.bool (inS ⟨f, t, n⟩)) ∧ Below w.heap.size w w' := by
  have HF := Lib.hid (fun W => l6pText_any f 20 hf W)
  have HT := Lib.hid (fun W => l6pText_any t 20 ht W)
  have HE : Hid (inS ⟨f, t, n⟩ = (sgB f 20 && sgB t 20 && (!n || (f.isEmpty && t.isEmpty)))) := rfl
  have e1 := bs_emp f
  have e2 := bs_emp t
  generalize inS ⟨f, t, n⟩ = R at *
  generalize sgB f 20 = x at *
  generalize sgB t 20 = y at *
  generalize f.isEmpty = p at *
  generalize t.isEmpty = q at *
  generalize bs f = fb at *
  generalize bs t = tb at *
  clear hf ht
  cases x with
  | false =>
    rw [HE.out]
    clear HE
    go_enter Tryd.func25, Tryd.ntmps25
    go_wp2_with fail
    refine (HF.out _).mono ?_
    rintro e w1 ⟨rfl, rfl⟩
    go_wp2
    go_ret
    exact ⟨by try rfl, (Below.refl _ _).alloc (Nat.le_refl _) _⟩
  | true =>
    cases y with
    | false =>
      rw [HE.out]
      clear HE
      go_enter Tryd.func25, Tryd.ntmps25
      go_wp2_with fail
      refine (HF.out _).mono ?_
      rintro e w1 ⟨rfl, rfl⟩
      go_wp2_with fail
      refine (HT.out _).mono ?_
      rintro e w1 ⟨rfl, rfl⟩
      go_wp2
      go_ret
      exact ⟨by try rfl, (Below.refl _ _).alloc (Nat.le_refl _) _⟩
    | true =>
      cases n with
      | false =>
        rw [HE.out]
        clear HE
        go_enter Tryd.func25, Tryd.ntmps25
        go_wp2_with fail
        refine (HF.out _).mono ?_
        rintro e w1 ⟨rfl, rfl⟩
        go_wp2_with fail
        refine (HT.out _).mono ?_
        rintro e w1 ⟨rfl, rfl⟩
        go_wp2
        go_ret
        exact ⟨by try rfl, (Below.refl _ _).alloc (Nat.le_refl _) _⟩
      | true =>
        cases p with
        | false =>
          rw [HE.out]
          clear HE
          go_enter Tryd.func25, Tryd.ntmps25
          go_wp2_with fail
          refine (HF.out _).mono ?_
          rintro e w1 ⟨rfl, rfl⟩
          go_wp2_with fail
          refine (HT.out _).mono ?_
          rintro e w1 ⟨rfl, rfl⟩
          go_wp2
          go_ret
          exact ⟨by try rfl, (Below.refl _ _).alloc (Nat.le_refl _) _⟩
        | true =>
          cases q with
          | false =>
            rw [HE.out]
            clear HE
            go_enter Tryd.func25, Tryd.ntmps25
            go_wp2_with fail
            refine (HF.out _).mono ?_
            rintro e w1 ⟨rfl, rfl⟩
            go_wp2_with fail
            refine (HT.out _).mono ?_
            rintro e w1 ⟨rfl, rfl⟩
            go_wp2
            go_ret
            exact ⟨by try rfl, (Below.refl _ _).alloc (Nat.le_refl _) _⟩
          | true =>
            rw [HE.out]
            clear HE
            go_enter Tryd.func25, Tryd.ntmps25
            go_wp2_with fail
            refine (HF.out _).mono ?_
            rintro e w1 ⟨rfl, rfl⟩
            go_wp2_with fail
            refine (HT.out _).mono ?_
            rintro e w1 ⟨rfl, rfl⟩
            go_wp2
            go_ret
            exact ⟨by try rfl, (Below.refl _ _).alloc (Nat.le_refl _) _⟩
theorem ta_sp (v : Value) (W : World) : (Instr.typeAssert (.iface 32 v) 49 46 true).run Tryd.prog W = .ok (.tuple #[.agg #[.int .i64 0, .int .i64 0], .bool false]) W := by kernel_rfl
theorem ta_ss (v : Value) (W : World) : (Instr.typeAssert (.iface 32 v) 49 32 true).run Tryd.prog W = .ok (.tuple #[v, .bool true]) W := by kernel_rfl
theorem ta_pp (v : Value) (W : World) : (Instr.typeAssert (.iface 46 v) 49 46 true).run Tryd.prog W = .ok (.tuple #[v, .bool true]) W := by kernel_rfl
theorem ta_np (W : World) : (Instr.typeAssert .nilIface 49 46 true).run Tryd.prog W = .ok (.tuple #[.agg #[.int .i64 0, .int .i64 0], .bool false]) W := by kernel_rfl
theorem ta_ns (W : World) : (Instr.typeAssert .nilIface 49 32 true).run Tryd.prog W = .ok (.tuple #[.agg #[.string ⟨#[]⟩, .string ⟨#[]⟩, .bool false], .bool false]) W := by kernel_rfl
/-- a swap as a mover -/
def mvS (f t : List UInt8) (n : Bool) : Value := .iface 32 (.agg #[.string (bs f), .string (bs t), .bool n])
set_option maxHeartbeats 1000000 in
theorem toldS_any (f t : List UInt8) (n : Bool) (w : World) : Calls Tryd.prog 54 #[mvS f t n] w fun e w' => e = .returned (.bool (inS ⟨f, t, n⟩)) ∧ Below w.heap.size w w' := by
  have HF := Lib.hid (fun W => isSigns_any f 20 W)
  have HT := Lib.hid (fun W => isSigns_any t 20 W)
  have HE : Hid (inS ⟨f, t, n⟩ = (sgB f 20 && sgB t 20 && (!n || (f.isEmpty && t.isEmpty)))) := rfl
  have e1 := bs_emp f
  have e2 := bs_emp t
  have HP : Hid (f.isEmpty = true → t.isEmpty = true → sgB f 20 = true ∧ sgB t 20 = true) := fun a b => by rw [List.isEmpty_iff.1 a, List.isEmpty_iff.1 b]; decide
  have a1 := ta_sp (.agg #[.string (bs f), .string (bs t), .bool n])
  have a2 := ta_ss (.agg #[.string (bs f), .string (bs t), .bool n])
  unfold mvS
  generalize inS ⟨f, t, n⟩ = R at *
  generalize sgB f 20 = x at *
  generalize sgB t 20 = y at *
  generalize f.isEmpty = p at *
  generalize t.isEmpty = q at *
  generalize bs f = fb at *
  generalize bs t = tb at *
  cases n with
  | false =>
    cases x with
    | false =>
      clear HP
      rw [HE.out]
      clear HE
      go_enter Tryd.func54, Tryd.ntmps54
      go_wp2_with fail
      refine (HF.out _).mono ?_
      rintro e w1 ⟨rfl, hb1⟩
      have KB := (Blk.new w 32 #[.string fb, .string tb, .bool false]).below hb1 (by simp)
      have hlt := KB.lt
      have b0 : w1.cell? ⟨w.heap.size, 0, none⟩ = some (.string fb) := KB.cell 0
      have b1 : w1.cell? ⟨w.heap.size, 1, none⟩ = some (.string tb) := KB.cell 1
      have b2 : w1.cell? ⟨w.heap.size, 2, none⟩ = some (.bool false) := KB.cell 2
      clear KB
      have HB1 := Lib.hid hb1
      clear hb1
      go_wp2
      go_ret
      exact ⟨by try rfl, ((Below.refl _ _).alloc (Nat.le_refl _) _).trans (HB1.out.mono (by simp))⟩
    | true =>
      cases y with
      | false =>
        clear HP
        rw [HE.out]
        clear HE
        go_enter Tryd.func54, Tryd.ntmps54
        go_wp2_with fail
        refine (HF.out _).mono ?_
        rintro e w1 ⟨rfl, hb1⟩
        have KB := (Blk.new w 32 #[.string fb, .string tb, .bool false]).below hb1 (by simp)
        have hlt := KB.lt
        have b0 : w1.cell? ⟨w.heap.size, 0, none⟩ = some (.string fb) := KB.cell 0
        have b1 : w1.cell? ⟨w.heap.size, 1, none⟩ = some (.string tb) := KB.cell 1
        have b2 : w1.cell? ⟨w.heap.size, 2, none⟩ = some (.bool false) := KB.cell 2
        clear KB
        have HB1 := Lib.hid hb1
        clear hb1
        go_wp2_with fail
        refine (HT.out _).mono ?_
        rintro e w2 ⟨rfl, hb2⟩
        have HB2 := Lib.hid hb2
        clear hb2
        go_wp2
        go_ret
        exact ⟨by try rfl, (((Below.refl _ _).alloc (Nat.le_refl _) _).trans (HB1.out.mono (by simp))).trans (HB2.out.mono (by omega))⟩
      | true =>
        clear HP
        rw [HE.out]
        clear HE
        go_enter Tryd.func54, Tryd.ntmps54
        go_wp2_with fail
        refine (HF.out _).mono ?_
        rintro e w1 ⟨rfl, hb1⟩
        have KB := (Blk.new w 32 #[.string fb, .string tb, .bool false]).below hb1 (by simp)
        have hlt := KB.lt
        have b0 : w1.cell? ⟨w.heap.size, 0, none⟩ = some (.string fb) := KB.cell 0
        have b1 : w1.cell? ⟨w.heap.size, 1, none⟩ = some (.string tb) := KB.cell 1
        have b2 : w1.cell? ⟨w.heap.size, 2, none⟩ = some (.bool false) := KB.cell 2
        clear KB
        have HB1 := Lib.hid hb1
        clear hb1
        go_wp2_with fail
        refine (HT.out _).mono ?_
        rintro e w2 ⟨rfl, hb2⟩
        have HB2 := Lib.hid hb2
        clear hb2
        go_wp2
        go_ret
        exact ⟨by try rfl, (((Below.refl _ _).alloc (Nat.le_refl _) _).trans (HB1.out.mono (by simp))).trans (HB2.out.mono (by omega))⟩
  | true =>
    cases p with
    | false =>
      have hR : R = false := by rw [HE.out]; cases x <;> cases y <;> cases q <;> rfl
      rw [hR]
      clear hR
      clear HP
      clear HE
      go_enter Tryd.func54, Tryd.ntmps54
      go_wp2
      go_ret
      exact ⟨by try rfl, (Below.refl _ _).alloc (Nat.le_refl _) _⟩
    | true =>
      cases q with
      | false =>
        have hR : R = false := by rw [HE.out]; cases x <;> cases y <;> rfl
        rw [hR]
        clear hR
        clear HP
        clear HE
        go_enter Tryd.func54, Tryd.ntmps54
        go_wp2
        go_ret
        exact ⟨by try rfl, (Below.refl _ _).alloc (Nat.le_refl _) _⟩
      | true =>
        have hR : R = true := by rw [HE.out]; obtain ⟨h1, h2⟩ := HP.out rfl rfl; rw [h1, h2]; rfl
        rw [hR]
        clear hR
        clear HP
        clear HE
        go_enter Tryd.func54, Tryd.ntmps54
        go_wp2
        go_ret
        exact ⟨by try rfl, (Below.refl _ _).alloc (Nat.le_refl _) _⟩
set_option maxHeartbeats 1000000 in
theorem implIn_any (f t : List UInt8) (n : Bool) (w : World) : Calls Tryd.prog 24 #[.agg #[.string (bs f), .string (bs t), .bool n]] w fun e w' => e = .returned (.bool (inS ⟨f, t, n⟩)) ∧ Below w.heap.size w w' := by
  have HT := Lib.hid (fun W => toldS_any f t n W)
  generalize inS ⟨f, t, n⟩ = R at *
  unfold mvS at HT
  generalize bs f = fb at *
  generalize bs t = tb at *
  go_enter Tryd.func24, Tryd.ntmps24
  go_wp2_with fail
  refine (HT.out _).mono ?_
  rintro e w1 ⟨rfl, hb⟩
  have HB := Lib.hid hb
  clear hb
  go_wp2
  go_ret
  exact ⟨by try rfl, ((Below.refl _ _).alloc (Nat.le_refl _) _).trans (HB.out.mono (by simp))⟩
end Go.Proofs.YtdljndpobklkjaaDoor
