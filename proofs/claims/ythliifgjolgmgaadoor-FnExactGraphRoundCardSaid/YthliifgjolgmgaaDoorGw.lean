/-
  impl.inverse of a letter told by a natural number; impl.drawing.draw.
-/
import Derived.Test.YthliifgjolgmgaaDoorGv
import Derived.Deep.AppendLies
import Derived.Deep.RegionLaw
namespace Go.Proofs.YthliifgjolgmgaaDoor
set_option maxRecDepth 100000
set_option linter.unusedVariables false
open Go.RowKit Go.Lib

theorem inv_any (l : Nat) (hl : l < 4) (w : World) : Calls Tryd.prog 73 #[.int .i64 (l : Int)] w fun e w' => e = .returned (.int .i64 ((inL l : Nat) : Int)) ∧ w' = w := by
  have key : ∀ c : Fin 4, Calls Tryd.prog 73 #[.int .i64 ((c.val : Nat) : Int)] w fun e w' => e = .returned (.int .i64 ((inL c.val : Nat) : Int)) ∧ w' = w := by
    intro c
    match c with
    | 0 =>
      go_enter Tryd.func73, Tryd.ntmps73
      go_wp2
      go_ret
      exact ⟨rfl, rfl⟩
    | 1 =>
      go_enter Tryd.func73, Tryd.ntmps73
      go_wp2
      go_ret
      exact ⟨rfl, rfl⟩
    | 2 =>
      go_enter Tryd.func73, Tryd.ntmps73
      go_wp2
      go_ret
      exact ⟨rfl, rfl⟩
    | 3 =>
      go_enter Tryd.func73, Tryd.ntmps73
      go_wp2
      go_ret
      exact ⟨rfl, rfl⟩
  exact key ⟨l, hl⟩
theorem info_stroke : (Tryd.prog.info? 85).map (fun i => (i.zero, i.size, i.bytes)) = some (some (.agg #[.int .i64 0, .int .i64 0, .int .i64 0]), 3, 24) := by kernel_rfl
def two (f l t : Nat) : List Sk := [(f, l, t), (t, inL l, f)]
theorem two_cells (f l t : Nat) : skC (two f l t) = [.int .i64 (f : Int), .int .i64 (l : Int), .int .i64 (t : Int), .int .i64 (t : Int), .int .i64 ((inL l : Nat) : Int), .int .i64 (f : Int)] := rfl
theorem cells6 (w : World) (t : TypeId) (a b c d e f : Value) : ∀ j u, [a, b, c, d, e, f][j]? = some u → (w.alloc (.cells #[a, b, c, d, e, f] t)).cell? ((⟨w.heap.size, 0, none⟩ : Addr).add j) = some u :=
  World.news_of_block (heap_alloc_new w _)
set_option maxHeartbeats 2000000 in
theorem draw_any (lo D : Nat) (v : Value) (S : List Sk) (f l t : Nat) (w : World) (hl : l < 4) (hn : S.length ≤ 1000) (hb : Blk w D 49 #[v]) (ho : w.ownsRow lo 85 3 v S.length (skC S)) (hlo : lo ≤ D) :
    Calls Tryd.prog 54 #[.pointer (some ⟨D, 0, none⟩), .int .i64 (f : Int), .int .i64 (l : Int), .int .i64 (t : Int)] w fun e w' => e = .returned (.tuple #[]) ∧ ∃ g c, Blk w' D 49 #[.slice (some ⟨g, 0, none⟩) (S.length + 2) c] ∧
      w'.ownsRow lo 85 3 (.slice (some ⟨g, 0, none⟩) (S.length + 2) c) (S.length + 2) (skC (S ++ two f l t)) ∧ Below lo w w' ∧ (∀ q, q < w.heap.size → q ≠ D → v.ownBlock ≠ some q → w'.heap[q]? = w.heap[q]?) := by
  have HINV : Hid (∀ V : World, Calls Tryd.prog 73 #[.int .i64 (l : Int)] V fun e w' => e = .returned (.int .i64 ((inL l : Nat) : Int)) ∧ w' = V) := fun V => inv_any l hl V
  obtain ⟨i0, hi, hz0, hz1, hz2⟩ := info_parts info_stroke
  have hc := hb.cell 0
  have hf := hb.frozen 0
  have hwl := hb.lt
  have hX7 : (w.drew.alloc (.cells #[.int .i64 (f : Int), .int .i64 (l : Int), .int .i64 (t : Int), .int .i64 (t : Int), .int .i64 ((inL l : Nat) : Int), .int .i64 (f : Int)] 85)).ownsRow lo 85 3 v S.length (skC S) := ho.drew.alloc _
  have hB7 : Blk (w.drew.alloc (.cells #[.int .i64 (f : Int), .int .i64 (l : Int), .int .i64 (t : Int), .int .i64 (t : Int), .int .i64 ((inL l : Nat) : Int), .int .i64 (f : Int)] 85)) D 49 #[v] := hb.drew.alloc _
  have hne : v.ownBlock ≠ some D := own_blk_ne ho hb (by decide)
  have HM7 : Hid (∀ w7 : World, (w.drew.alloc (.cells #[.int .i64 (f : Int), .int .i64 (l : Int), .int .i64 (t : Int), .int .i64 (t : Int), .int .i64 ((inL l : Nat) : Int), .int .i64 (f : Int)] 85)).grownBy w7 v.ownBlock → w7.cell? ⟨D, 0, none⟩ = some v ∧ w7.frozen? ⟨D, 0, none⟩ = false) := fun w7 hg => by
    have hw1 : Blk w7 D _ _ := hB7.grown hg hne.symm
    exact ⟨hw1.cell 0, hw1.frozen 0⟩
  have HW7 : Hid (∀ (w7 : World) (g c : Nat), w7.ownsRow lo 85 3 (.slice (some ⟨g, 0, none⟩) (S.length + 2) c) (S.length + 2) (skC S ++ skC (two f l t)) → (w.drew.alloc (.cells #[.int .i64 (f : Int), .int .i64 (l : Int), .int .i64 (t : Int), .int .i64 (t : Int), .int .i64 ((inL l : Nat) : Int), .int .i64 (f : Int)] 85)).grownBy w7 v.ownBlock →
      Blk (w7.setCell ⟨D, 0, none⟩ (.slice (some ⟨g, 0, none⟩) (S.length + 2) c)) D 49 #[.slice (some ⟨g, 0, none⟩) (S.length + 2) c] ∧ (w7.setCell ⟨D, 0, none⟩ (.slice (some ⟨g, 0, none⟩) (S.length + 2) c)).ownsRow lo 85 3 (.slice (some ⟨g, 0, none⟩) (S.length + 2) c) (S.length + 2) (skC (S ++ two f l t)) ∧ Below lo w (w7.setCell ⟨D, 0, none⟩ (.slice (some ⟨g, 0, none⟩) (S.length + 2) c)) ∧ (∀ q, q < w.heap.size → q ≠ D → v.ownBlock ≠ some q → (w7.setCell ⟨D, 0, none⟩ (.slice (some ⟨g, 0, none⟩) (S.length + 2) c)).heap[q]? = w.heap[q]?)) := fun w7 g c hown hg => by
    have hw1 : Blk w7 D _ _ := hB7.grown hg hne.symm
    have hBel : Below lo w w7 := ((Below.refl lo w).drew.alloc (show lo ≤ w.heap.size by omega) _).grown hg (by have e1 : w.drew.heap.size = w.heap.size := rfl; simp; omega) (fun k e => (hX7.lt k e).1)
    refine ⟨hw1.set_ 0 _, ?_, hBel.setCell hlo _, fun q hq hqD hqv => ?_⟩
    rotate_left
    · have e1 : w.drew.heap.size = w.heap.size := rfl
      rw [Below.heap_setCell w7 _ _ q hqD, hg.block q (by simp; omega) (fun e => hqv e.symm), Below.heap_alloc _ _ q (by omega)]
      rfl
    rw [skC_app]
    exact ownsRow_setCell_other hown (own_blk_ne hown hw1 (by decide)) _
  have hx1 : S.length + 2 ≤ maxLen := by unfold maxLen; omega
  have hx2 : (S.length + 2) * 24 ≤ 140737488355328 := by omega
  have hx3 : lo ≤ (w.drew.alloc (.cells #[.int .i64 (f : Int), .int .i64 (l : Int), .int .i64 (t : Int), .int .i64 (t : Int), .int .i64 ((inL l : Nat) : Int), .int .i64 (f : Int)] 85)).heap.size := by have e1 : w.drew.heap.size = w.heap.size := rfl; simp; omega
  clear hB7 hne hb ho hn
  go_enter Tryd.func54, Tryd.ntmps54
  go_wp2_with fail
  go_region_law (first
    | (go_simp
       go_at_call 73
       refine (HINV.out _).mono ?_
       rintro e q1 ⟨rfl, rfl⟩)
    | (refine step_append_lies _ (by rfl) _ _ _ (by rfl) lo 85 i0 (.agg #[.int .i64 0, .int .i64 0, .int .i64 0]) 3 24 Tryd.underlying49 hi hz0 hz1 hz2 rfl (by decide) v S.length (skC S) (by rfl) hX7 ⟨w.heap.size, 0, none⟩ 2 2 (skC (two f l t)) (by rfl) rfl (cells6 _ _ _ _ _ _ _ _) (by rw [two_cells]; simp [Value.oneCell']) (by decide) hx1 hx2 hx3 (w.heap.size + 1) (by simp) ?_
       intro g7 cap7 w7 hown7 hgrow7 hat7 hlt7
       obtain ⟨hq, hqf⟩ := HM7.out w7 hgrow7))
  all_goals
    obtain ⟨hk8, hO8, hB8, hQ8⟩ := HW7.out w7 _ _ hown7 hgrow7
    have HQ8 := Lib.hid hQ8
    have HK8 := Lib.hid hk8
    have HO8 := Lib.hid hO8
    have HB8 := Lib.hid hB8
    clear HW7 HM7 hX7 hx1 hx2 hx3 hc hf hwl hown7 hgrow7 hk8 hO8 hB8 hQ8
    generalize w7.setCell ⟨D, 0, none⟩ (.slice (some ⟨g7, 0, none⟩) (S.length + 2) cap7) = w8 at *
    subst_vars
    go_end0
    exact ⟨rfl, g7, cap7, HK8.out, HO8.out, HB8.out, HQ8.out⟩
end Go.Proofs.YthliifgjolgmgaaDoor
