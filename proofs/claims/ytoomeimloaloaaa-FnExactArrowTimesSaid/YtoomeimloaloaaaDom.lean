/-
  (impl.chart).domain, (impl.chart).image.
-/
import Derived.Test.YtoomeimloaloaaaJoin
namespace Go.Proofs.Ytoomeimloaloaaa
set_option maxRecDepth 100000
open Go.RowKit Go.Shelf
attribute [local go_sem] Oper.semAt_some

theorem setw_fin : ∀ (m : Fin 64) (z : Fin 6), bits BinOp.or IntKind.i64 (m.val : Int) (IntKind.i64.wrap (2 ^ z.val)) = ((m.val ||| 1 <<< z.val : Nat) : Int) := by decide +kernel
theorem setw_is {m z : Nat} (hm : m < 64) (h6 : z < 6) : bits BinOp.or IntKind.i64 (m : Int) (IntKind.i64.wrap (2 ^ z)) = ((m ||| 1 <<< z : Nat) : Int) := setw_fin ⟨m, hm⟩ ⟨z, h6⟩
theorem Ib.set_ {w : World} {b : Nat} {v : Int} (h : Ib w b v) (u : Int) : Ib (w.setCell ⟨b, 0, none⟩ (.int .i64 u)) b u :=
  World.rowIs.congr (World.rowIs.set h 0 (.int .i64 u)) (fun j hj => by rw [if_pos (by omega)])

set_option maxRecDepth 100000 in
set_option maxHeartbeats 1000000 in
theorem domain_any (n : Nat) (hn : n ≤ 6) (T : Nat → Int) (hT : Ok n T) (w : World) :
    Calls Try.prog 38 #[.agg #[.int .i64 ((n : Int)), .int .i64 (T 0), .int .i64 (T 1), .int .i64 (T 2), .int .i64 (T 3), .int .i64 (T 4), .int .i64 (T 5)]] w fun e w' => e = .returned (.int .i64 (domL (mv T n) : Nat)) ∧ Below w.heap.size w w' := by
  refine (callsIn_wide (n := 3)).1 ?_
  refine callsIn_of_wp_marks Try.func38 rfl trivial ?_ rfl
  simp only [Try.ntmps38, List.size_toArray, List.length_cons, List.length_nil, Nat.reduceAdd, Nat.reduceSub, Array.replicate_succ, Array.replicate_zero, List.push_toArray, List.append_toArray, List.nil_append, List.cons_append]
  gi_wp2_with fail
  refine ⟨trivial, (moved_in Fence.wide 2 trivial rfl _ _ _).mono ?_⟩
  rintro e w2 ⟨rfl, rfl⟩
  gi_wp2
  have bR := (Ib.new (w.alloc (.cells #[.int .i64 ((n : Int)), .int .i64 (T 0), .int .i64 (T 1), .int .i64 (T 2), .int .i64 (T 3), .int .i64 (T 4), .int .i64 (T 5)] 38)) 0).alloc (.cells #[.int .i64 ((n : Int)), .int .i64 (T 0), .int .i64 (T 1), .int .i64 (T 2), .int .i64 (T 3), .int .i64 (T 4), .int .i64 (T 5)] 38)
  have hM := Cb.new ((w.alloc (.cells #[.int .i64 ((n : Int)), .int .i64 (T 0), .int .i64 (T 1), .int .i64 (T 2), .int .i64 (T 3), .int .i64 (T 4), .int .i64 (T 5)] 38)).alloc (.cells #[.int .i64 0] 3)) n T
  simp only [World.size_alloc] at bR hM
  have hB0 : Below w.heap.size w (((w.alloc (.cells #[.int .i64 ((n : Int)), .int .i64 (T 0), .int .i64 (T 1), .int .i64 (T 2), .int .i64 (T 3), .int .i64 (T 4), .int .i64 (T 5)] 38)).alloc (.cells #[.int .i64 0] 3)).alloc (.cells #[.int .i64 ((n : Int)), .int .i64 (T 0), .int .i64 (T 1), .int .i64 (T 2), .int .i64 (T 3), .int .i64 (T 4), .int .i64 (T 5)] 38)) := (((Below.refl _ w).alloc (Nat.le_refl _) _).alloc (by simp) _).alloc (by simp <;> omega) _
  refine wpIn_rangeFunc_ownG rfl (by omega) (gf := 47) (lb := #[.pointer (some ⟨w.heap.size + 1 + 1, 0, none⟩)]) rfl trivial (enters_of Try.func47 (by kernel_rfl) rfl)
    (moved_stops Fence.wide 2 trivial rfl (by omega) (w.heap.size + 1 + 1) n hn T hT _ hM) Kb_t (Kb_b (by simp)) (Below.refl _ _) (fun _ => rfl)
    (fun pre W => Ib W (w.heap.size + 1) (domL pre : Nat) ∧ Below w.heap.size w W)
    (fun _ _ _ => False)
    (OwnFrom.and (Own.from (fun s A B row hs hg hr => ib_own _ (fun pre => ((domL pre : Nat) : Int)) s A B row hs hg hr) _) (ownFrom_below (Nat.le_refl _) (by simp <;> omega)))
    (fun _ _ _ _ _ hs _ _ => hs)
    ⟨bR, hB0⟩
    (fun x => { tmps := #[.agg #[.int .i64 ((n : Int)), .int .i64 (T 0), .int .i64 (T 1), .int .i64 (T 2), .int .i64 (T 3), .int .i64 (T 4), .int .i64 (T 5)], .pointer (some ⟨w.heap.size, 0, none⟩), .int .i64 0, .pointer (some ⟨w.heap.size + 1, 0, none⟩), .int .i64 (x.1.1 : Int), .agg #[.int .i64 ((n : Int)), .int .i64 (T 0), .int .i64 (T 1), .int .i64 (T 2), .int .i64 (T 3), .int .i64 (T 4), .int .i64 (T 5)], .func (.func 47) #[] #[.pointer (some ⟨w.heap.size + 1 + 1, 0, none⟩)], .int .i64 (x.1.1 : Int), .int .i64 x.1.2, undef, undef, undef, undef, undef], defers := [] }) ?assign ?body ?done ?stop
  case assign =>
    intro l x W K hK
    gi_wp2
    exact hK
  case body =>
    rintro l pre ⟨⟨i, t⟩, hi, ht0, ht6⟩ W ⟨hR, hB⟩ _
    have hi' : i < 6 := hi
    have e1 := hR.cell
    have e2 := hR.frozen
    have hmx : Try.prog.follows .mixedOrders = true := by kernel_rfl
    have HS := Lib.hid (setw_is (domL_lt pre) hi')
    have hR' := hR.set_ (domL pre ||| 1 <<< i : Nat)
    have hB' := hB.setCell (p := ⟨w.heap.size + 1, 0, none⟩) (by simp <;> omega) (.int .i64 ((domL pre ||| 1 <<< i : Nat) : Int))
    clear hB
    gi_wp2
    gi_region_with_o (fail)
    all_goals gi_wp2
    all_goals rw [HS.out]
    all_goals exact ⟨((KeepsOthers.setCell _ _ _).trans (KeepsOthers.drew _)).from _, Below.heap_setCell _ _ _ _ (by simp), by rw [domL_snoc]; exact hR', hB'.drew⟩
  case done =>
    rintro D ys W hD rfl ⟨hR, hB⟩ hK
    have e1 := hR.cell
    gi_wp2
    refine ⟨by simp, .inl ⟨_, _, rfl, run_takeDeferred hK, ?_⟩⟩
    exact ⟨_, results_tmp rfl _ _ _, rfl, hB.trans (belowK_b (w := w) (Nat.le_refl _) W D _ _ (by simp at hD; omega) hK rfl rfl)⟩
  case stop =>
    rintro D c pre W _ _ h _
    exact h.elim
end Go.Proofs.Ytoomeimloaloaaa
