/-
  == and != on swaps.
-/
import Derived.Test.YtdljndpobklkjaaDoorSn6
import Derived.ChangeKeysEq
import Derived.Laws.StructEq
namespace Go.Proofs.YtdljndpobklkjaaDoor
set_option maxRecDepth 100000
set_option linter.unusedVariables false
open Go.RowKit

set_option maxHeartbeats 400000 in
theorem sw_eqIn (x y x' y' : ByteArray) (z z' : Bool) (w : World) :
    (Op.equalIn 10000 32 (.agg #[.string x, .string y, .bool z]) (.agg #[.string x', .string y', .bool z'])).run Tryd.prog w = .ok (x.toList == x'.toList && (y.toList == y'.toList && z == z')) w := by
  have e : Tryd.prog.underlying 32 = some (.struct (Tryd.prog.fieldsOf 32)) := by kernel_rfl
  rw [run_equalIn_struct w 9999 32 _ _ e (by kernel_rfl)]
  rw [Tryd.underlying32] at e
  injection e with e
  injection e with e
  rw [← e]
  have hpk : Tryd.prog.plainKey 9 = true := by kernel_rfl
  have hpb : Tryd.prog.plainKey 4 = true := by kernel_rfl
  have q0 := fun W => run_part_plain W hpk (show (#[Value.string x, .string y, .bool z] : Array Value)[0]? = some _ from rfl)
  have q1 := fun W => run_part_plain W hpk (show (#[Value.string x, .string y, .bool z] : Array Value)[1]? = some _ from rfl)
  have q2 := fun W => run_part_plain W hpb (show (#[Value.string x, .string y, .bool z] : Array Value)[2]? = some _ from rfl)
  have r0 := fun W => run_part_plain W hpk (show (#[Value.string x', .string y', .bool z'] : Array Value)[0]? = some _ from rfl)
  have r1 := fun W => run_part_plain W hpk (show (#[Value.string x', .string y', .bool z'] : Array Value)[1]? = some _ from rfl)
  have r2 := fun W => run_part_plain W hpb (show (#[Value.string x', .string y', .bool z'] : Array Value)[2]? = some _ from rfl)
  have hs : ∀ (d : Nat) (a b : ByteArray) (W : World), (Op.equalIn (d + 1) 9 (.string a) (.string b)).run Tryd.prog W = .ok (a.toList == b.toList) W := fun d a b W => run_equalIn_string W d 9 a b Tryd.underlying9
  have hb : ∀ (d : Nat) (a b : Bool) (W : World), (Op.equalIn (d + 1) 4 (.bool a) (.bool b)).run Tryd.prog W = .ok (a == b) W := fun d a b W => run_equalIn_bool' W d 4 a b Tryd.underlying4
  have hs1 := hs 9998
  have hb1 := hb 9998
  simp [Op.eqFields, q0, q1, q2, r0, r1, r2, hs1, hb1]
  cases h0 : (x.toList == x'.toList) <;> cases h1 : (y.toList == y'.toList) <;> cases h2 : (z == z') <;> simp_all
theorem sw_guard (op : BinOp) (a b : Operand) (xs ys : Array Value) (w : World) : (eqGuard op 32 a b (.agg xs) (.agg ys)).run Tryd.prog w = .ok () w := run_eqGuard_agg w op _ a b xs ys (by kernel_rfl)
theorem sw_eql (x y : ByteArray) (z : Bool) (w : World) : (binOp .eql 32 (.agg #[.string x, .string y, .bool z]) (.agg #[.string x, .string y, .bool z])).run Tryd.prog w = .ok (.bool true) w := by
  rw [run_eql_struct, sw_eqIn]; simp
theorem sw_neq (x y : ByteArray) (z : Bool) (w : World) : (binOp .neq 32 (.agg #[.string x, .string y, .bool z]) (.agg #[.string x, .string y, .bool z])).run Tryd.prog w = .ok (.bool false) w := by
  rw [run_neq_struct, sw_eqIn]; simp
theorem blk_snd6 (w : World) (T U : TypeId) (a b : Array Value) : Blk ((w.alloc (.cells a T)).alloc (.cells b U)) (w.heap.size + 1) U b := by
  have h := Blk.new (w.alloc (.cells a T)) U b
  rwa [show (w.alloc (.cells a T)).heap.size = w.heap.size + 1 by simp] at h
end Go.Proofs.YtdljndpobklkjaaDoor
