/-
  (impl.chart).moved and its closure: the iterator over the points that are moved, by its contract.
-/
import Derived.RangeFuncNested
import Derived.RangeFuncBound
import Derived.RangeFuncCalls
import Derived.RangeFuncLeaves
import Derived.Shelf.Abstract
import Derived.Shelf.RegionOpen
import Derived.WalkKit
import Derived.OwnWalkIn
import Derived.TacticsInMore
import Derived.LoopNIn
import Derived.LoopIn
import Derived.Outline
import Derived.Test.YtoomeimloaloaaaOf
namespace Go.Proofs.Ytoomeimloaloaaa
set_option maxRecDepth 100000
open Go.RowKit Go.Shelf
attribute [local go_sem] Oper.semAt_some

abbrev encP (x : Pt) : Array Value := #[Value.int .i64 (x.1.1 : Int), Value.int .i64 x.1.2]

set_option maxRecDepth 100000 in
set_option maxHeartbeats 2000000 in
theorem moved1_in (F : Fence) (m : Nat) (hf : F.fn 47) (hro : F.round = none) (hm : 1 ≤ m) (l b n : Nat) (hn : n ≤ 6) (T : Nat → Int) (hT : Ok n T) (J Jx : List Pt → World → Prop)
    (hY : ∀ pre x W, J pre W → pre.length < n → YieldAt F (m - 1) Try.prog l (encP x) W fun e W' =>
      (e = .returned (.bool true) ∧ J (pre ++ [x]) W' ∧ W'.heap[b]? = W.heap[b]?) ∨ (e = .returned (.bool false) ∧ Jx (pre ++ [x]) W'))
    (W : World) (hC : Cb W b n T) (h0 : J [] W) :
    CallsIn F m Try.prog 47 #[.func (.yield l) #[] #[], .pointer (some ⟨b, 0, none⟩)] W fun e W' => (∃ v, e = .returned v) ∧
      ((∃ ys, ys = mv T n ∧ J ys W') ∨ (∃ pre, (∃ k, k ≤ n ∧ pre = mv T k) ∧ Jx pre W')) := by
  have hcn := hC.head
  refine callsIn_of_wp Try.func47 rfl hf ?_ hro
  simp only [Try.ntmps47, List.size_toArray, List.length_cons, List.length_nil, Nat.reduceAdd, Nat.reduceSub, Array.replicate_succ, Array.replicate_zero, List.push_toArray, List.append_toArray, List.nil_append, List.cons_append]
  gi_wp2
  gi_loopw [6] (fun i wr => ∃ k : Nat, k ≤ n ∧ i = .int .i64 k ∧ J (mv T k) wr ∧ Cb wr b n T) (fun i _ => n - (intOf i).toNat)
  case atStart => exact ⟨0, Nat.zero_le _, rfl, h0, hC⟩
  case round =>
    clear hC hcn h0
    obtain ⟨k, hk, rfl, hJ, hC⟩ := hrel
    by_cases hlt : k < n
    · have hcell := hC.at_ (k := k) (by omega)
      by_cases hz : T k = -1
      · have hne : (T k != -1) = false := by simp [hz]
        have HZ := Lib.hid hz
        clear hz
        gi_wp2
        refine ⟨fun _ h => (by cases h), ?_⟩
        gi_wp2
        go_roundw
        case rel => exact ⟨k + 1, by omega, by go_num, by rw [mv_skip HZ.out]; exact hJ, hC⟩
        case measure => simp [intOf]; omega
      · have hne : (T k != -1) = true := by simp [hz]
        have hin : k < 6 ∧ 0 ≤ T k ∧ T k < 6 := ⟨by omega, (hT k hlt).resolve_left hz⟩
        obtain ⟨fn, tmps, assign, body, hy, hR⟩ := hY _ ⟨(k, T k), hin⟩ wr hJ (by have := mv_length T k; omega)
        dsimp only [encP] at hy
        gi_wp2
        refine hR.mono ?_
        rintro e W3 (⟨rfl, hJ3, hk3⟩ | ⟨rfl, hJx3⟩)
        · have hC3 : Cb W3 b n T := World.rowIs.of_block hC hk3
          gi_wp2
          go_roundw
          case rel => exact ⟨k + 1, by omega, by go_num, by rw [mv_step hin]; exact hJ3, hC3⟩
          case measure => simp [intOf]; omega
        · gi_wp2
          refine bodyPost_ret (results_none rfl _ _ _) rfl ?_
          exact ⟨⟨_, rfl⟩, .inr ⟨_, ⟨k + 1, by omega, (mv_step hin).symm⟩, hJx3⟩⟩
    · obtain rfl : k = n := by omega
      gi_wp2
      go_end0
      exact ⟨⟨_, rfl⟩, .inl ⟨_, rfl, hJ⟩⟩

set_option maxHeartbeats 1000000 in
/-- c.moved(): the chart is boxed; the function value captures the box -/
theorem moved_in (F : Fence) (m : Nat) (hf : F.fn 43) (hro : F.round = none) (n : Int) (T : Nat → Int) (w : World) :
    CallsIn F m Try.prog 43 #[.agg #[.int .i64 (n), .int .i64 (T 0), .int .i64 (T 1), .int .i64 (T 2), .int .i64 (T 3), .int .i64 (T 4), .int .i64 (T 5)]] w fun e w' => e = .returned (.func (.func 47) #[] #[.pointer (some ⟨w.heap.size, 0, none⟩)]) ∧ w' = w.alloc (.cells #[.int .i64 (n), .int .i64 (T 0), .int .i64 (T 1), .int .i64 (T 2), .int .i64 (T 3), .int .i64 (T 4), .int .i64 (T 5)] 38) := by
  refine callsIn_of_wp Try.func43 rfl hf ?_ hro
  simp only [Try.ntmps43, List.size_toArray, List.length_cons, List.length_nil, Nat.reduceAdd, Nat.reduceSub, Array.replicate_succ, Array.replicate_zero, List.push_toArray, List.append_toArray, List.nil_append, List.cons_append]
  gi_wp2
  go_ret
  exact ⟨rfl, rfl⟩

/-- what a round's body owes: the iterator's chart lies as it lay -/
abbrev Kb (b : Nat) (W W' : World) : Prop := W'.heap[b]? = W.heap[b]?
theorem Kb_t {b : Nat} {A B C : World} (h : Kb b A B) (k : Kb b B C) : Kb b A C := k.trans h
theorem Kb_b {b : Nat} {w : World} (hb : b < w.heap.size) (W : World) (l : Nat) (o o' : Obj) (hl : w.heap.size ≤ l) (_ : W.heap[l]? = some o) (_ : o.isCells = false) (_ : o.isWalk = false) : Kb b W (W.putObj l o') :=
  World.putObj_heap_other (by omega)

/-- what c.moved() hands back gives the moved points in ascending order -/
theorem moved_stops (F : Fence) (m : Nat) (hf : F.fn 47) (hro : F.round = none) (hm : 1 ≤ m) (b n : Nat) (hn : n ≤ 6) (T : Nat → Int) (hT : Ok n T) (w : World) (hC : Cb w b n T) :
    SeqStopsK F m Try.prog 47 #[.pointer (some ⟨b, 0, none⟩)] encP (Kb b) (fun ys => ys = mv T n) (fun pre => ∃ k, k ≤ n ∧ pre = mv T k) n w := fun l J Jx W hW _ _ hY h0 =>
  moved1_in F m hf hro hm l b n hn T hT J Jx hY W (hC.below hW hC.lt) h0
end Go.Proofs.Ytoomeimloaloaaa
