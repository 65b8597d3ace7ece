/-
  math/bits.OnesCount at a set of six points.
-/
import Derived.Test.YtoomeimloaloaaaSpecB
import Derived.WalkLawsBesides
namespace Go.Proofs.Ytoomeimloaloaaa
set_option maxRecDepth 100000
open Go.RowKit

set_option maxHeartbeats 400000 in
theorem ones64_any (m : Nat) (hm : m < 64) (w : World) : Calls Try.prog 49 #[.int .u64 m] w fun e w' => e = .returned (.int .i64 (popK m 6 : Nat)) ∧ w = w' := by
  go_enter Try.func49, Try.ntmps49
  go_wp2
  go_ret
  refine ⟨?_, rfl⟩
  refine congrArg Ending.returned (congrArg (Value.int .i64) ?_)
  obtain ⟨x, rfl⟩ : ∃ x : Fin 64, x.val = m := ⟨⟨m, hm⟩, rfl⟩
  clear hm
  revert x
  decide +kernel

set_option maxHeartbeats 400000 in
theorem ones_any (m : Nat) (hm : m < 64) (w : World) : Calls Try.prog 46 #[.int .u64 m] w fun e w' => e = .returned (.int .i64 (popK m 6 : Nat)) ∧ w = w' := by
  go_enter Try.func46, Try.ntmps46
  go_wp2_with fail
  refine (ones64_any m hm _).mono ?_
  rintro e w' ⟨rfl, rfl⟩
  go_wp2
  go_ret
  exact ⟨rfl, rfl⟩
end Go.Proofs.Ytoomeimloaloaaa
