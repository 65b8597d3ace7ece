/-
  Col.
-/
import Derived.OwnWalkIn
import Derived.RangeFuncNested
import Derived.Test.YtkfiehndlgplgaaGreatDoorMA
import Derived.Test.YtkfiehndlgplgaaGreatDoorME
import Derived.Test.YtkfiehndlgplgaaGreatDoorNH
namespace Go.Proofs.YtkfiehndlgplgaaGreatDoor
set_option maxRecDepth 100000
set_option linter.unusedVariables false
set_option linter.unusedSimpArgs false
set_option linter.unusedSectionVars false

/-! slices.AppendSeq, slices.Collect over the values of a row of charts. -/
section
open Go.RowKit Go.Shelf
attribute [local go_sem] Oper.semAt_some

theorem cwc_one_ (m : Nat) (L : List Int) : cwc m [L] = c7 m (ofL L) := by unfold cwc; simp
theorem colI_own (w : World) (m : Nat) {B : Nat} (hB : w.heap.size ≤ B) : OwnFrom B (fun (pre : List (List Int)) W => (∃ v, Boxed W w.heap.size 65 v ∧ W.ownsRow w.heap.size 58 7 v pre.length (cwc m pre) ∧ True) ∧ Below w.heap.size w W) :=
  OwnFrom.and (Own.from (holdsRow_own w.heap.size w.heap.size 65 58 7 (fun pre : List (List Int) => pre.length) (fun pre => cwc m pre) (fun _ _ => True)) _) (ownFrom_below (Nat.le_refl _) hB)
set_option maxHeartbeats 4000000 in
theorem appendSeq_any (g sb cp m n : Nat) (ls : List (List Int)) (hn : ls.length = n) (hn6 : n ≤ 1048576) (w : World) (hg : g < w.heap.size) (hR : Chs w g m ls) (hS : Boxed w sb 65 (.slice (some ⟨g, 0, none⟩) n cp)) :
    Calls Tryz.prog 153 #[.slice none 0 0, .func (.func 148) #[] #[.pointer (some ⟨sb, 0, none⟩)]] w fun e w' => ∃ v, e = .returned v ∧ w'.ownsRow w.heap.size 58 7 v n (cwc m ls) ∧ Below w.heap.size w w' := by
  obtain ⟨i1, hj, hj0, hj1, hj2⟩ := info_parts info_chart7
  have hsb := hS.lt
  have HN := Lib.hid hn
  refine (callsIn_wide (n := 3)).1 ?_
  refine callsIn_of_wp_marks Tryz.func153 rfl trivial ?_ rfl
  simp only [Tryz.ntmps153, List.size_toArray, List.length_cons, List.length_nil, Nat.reduceAdd, Nat.reduceSub, Array.replicate_succ, Array.replicate_zero, List.push_toArray, List.append_toArray, List.nil_append, List.cons_append]
  gi_wp2
  have bO := Boxed.new w 65 (.slice none 0 0)
  have hB0 : Below w.heap.size w (w.alloc (.cells #[.slice none 0 0] 65)) := (Below.refl _ w).alloc (Nat.le_refl _) _
  have hseq := values_stops Fence.wide 2 trivial rfl (by omega) g sb cp m n ls hn hn6 (w.alloc (.cells #[.slice none 0 0] 65)) (by simp; omega) (hR.same (hB0.block g hg)) (hS.alloc _)
  clear hn
  refine wpIn_rangeFunc_ownH rfl (by omega) (gf := 148) (lb := #[.pointer (some ⟨sb, 0, none⟩)]) rfl trivial (enters_of Tryz.func148 (by kernel_rfl) rfl)
    hseq Kv_t (Kv_b (by simp; omega) (by simp; omega)) (Below.refl _ _) (fun _ => rfl)
    (fun (pre : List (List Int)) W => (∃ v, Boxed W w.heap.size 65 v ∧ W.ownsRow w.heap.size 58 7 v pre.length (cwc m pre) ∧ True) ∧ Below w.heap.size w W)
    (fun _ _ _ => False) (colI_own w m (by simp))
    (fun _ _ _ _ _ hs _ _ => hs)
    ⟨⟨_, bO, World.ownsRow_nil _ _ _ _, trivial⟩, hB0⟩
    (fun x a' W => ∃ B, w.heap.size < B ∧ Cb W B (m : Int) (ofL x) ∧ a' = { tmps := #[.slice none 0 0, .func (.func 148) #[] #[.pointer (some ⟨sb, 0, none⟩)], .pointer (some ⟨w.heap.size, 0, none⟩), undef, .slice none 0 0, .pointer (some ⟨B, 0, none⟩), .func (.func 148) #[] #[.pointer (some ⟨sb, 0, none⟩)], .agg #[.int .i64 ((m : Int)), .int .i64 (ofL x 0), .int .i64 (ofL x 1), .int .i64 (ofL x 2), .int .i64 (ofL x 3), .int .i64 (ofL x 4), .int .i64 (ofL x 5)], undef, undef, undef, undef, undef], defers := [] })
    (fun x a' s X Y row hs hg hrow => by
      obtain ⟨B, h0, h1, h2⟩ := hs
      exact ⟨B, h0, cb_own B (m : Int) (fun _ : Unit => ofL x) () X Y row h1 hg (fun r e => (hrow r e).2), h2⟩) ?assign ?body ?done ?stop
  case assign =>
    intro l pre x W K hI hK
    have hs := hI.2.size
    have hI2 := OwnFrom.alloc (colI_own w m (Nat.le_refl _)) (.cells #[.int .i64 ((m : Int)), .int .i64 (ofL x 0), .int .i64 (ofL x 1), .int .i64 (ofL x 2), .int .i64 (ofL x 3), .int .i64 (ofL x 4), .int .i64 (ofL x 5)] 58) hI
    have hlt : w.heap.size < W.heap.size := by
      obtain ⟨v, hv, _⟩ := hI.1
      exact hv.lt
    gi_wp2
    refine hK _ _ (KeepsFrom.of_grownBy (World.grownBy_alloc W _ none) (fun j e => by cases e)) ⟨Below.heap_alloc _ _ _ (by omega), Below.heap_alloc _ _ _ (by omega)⟩ hI2 ⟨W.heap.size, hlt, Cb.new _ _ _, rfl⟩
  case body =>
    rintro l pre x a' W hl _ ⟨⟨v, hv, hr, _⟩, hB⟩ ⟨B, hB0, hC, rfl⟩ hlen
    obtain ⟨b0, b1, b2, b3, b4, b5, b6⟩ := hC.all
    have q0 := hv.cell
    have hs := hB.size
    have h1 : pre.length + 1 ≤ maxLen := by unfold maxLen; omega
    have h2 : (pre.length + 1) * 56 ≤ 140737488355328 := by omega
    have h3 : w.heap.size ≤ (W.alloc (.cells #[.int .i64 ((m : Int)), .int .i64 (ofL x 0), .int .i64 (ofL x 1), .int .i64 (ofL x 2), .int .i64 (ofL x 3), .int .i64 (ofL x 4), .int .i64 (ofL x 5)] 58)).heap.size := by simp; omega
    have hr3 := hr.alloc (.cells #[.int .i64 ((m : Int)), .int .i64 (ofL x 0), .int .i64 (ofL x 1), .int .i64 (ofL x 2), .int .i64 (ofL x 3), .int .i64 (ofL x 4), .int .i64 (ofL x 5)] 58)
    have hcl := cell_7_new W m (ofL x)
    gi_wp2_with (gi_at_builtin; refine wpListIn_append_own _ rfl _ _ 65 rfl w.heap.size 58 i1 (.agg #[.int .i64 ((0 : Int)), .int .i64 ((fun _ => (0 : Int)) 0), .int .i64 ((fun _ => (0 : Int)) 1), .int .i64 ((fun _ => (0 : Int)) 2), .int .i64 ((fun _ => (0 : Int)) 3), .int .i64 ((fun _ => (0 : Int)) 4), .int .i64 ((fun _ => (0 : Int)) 5)]) 7 56 Tryz.underlying65 hj hj0 hj1 hj2 rfl (by decide) _ _ _ rfl hr3 ⟨W.heap.size, 0, none⟩ 1 1 (c7 m (ofL x)) rfl rfl hcl (c7_one _ _) h1 h2 h3 ?_; intro v' w1 hown' hgrow _; have hA := Boxed.appended (W := W) (tmp := (.cells #[.int .i64 ((m : Int)), .int .i64 (ofL x 0), .int .i64 (ofL x 1), .int .i64 (ofL x 2), .int .i64 (ofL x 3), .int .i64 (ofL x 4), .int .i64 (ofL x 5)] 58)) (ys := cwc m pre ++ c7 m (ofL x)) hv (by decide) hr hs (Nat.le_refl _) hown' hgrow; obtain ⟨g', c', rfl⟩ := ownsRow_succ hown'; have q1 := hA.1.cell; have q2 := hA.1.frozen)
    obtain ⟨_, a1, a2, a3, a4⟩ := hA
    refine ⟨a3.from _, ⟨a4.block _ hg, a4.block _ hsb⟩, ⟨_, a1, ?_, trivial⟩, hB.trans a4⟩
    rw [List.length_append, cwc_append, cwc_one_]
    exact a2
  case done =>
    rintro D ys W hD rfl ⟨⟨v, hv, hr, _⟩, hB⟩ hK
    have q0 := hv.cell
    have hr2 := ownsRow_putObj hr (.deferred none) hK rfl
    rw [HN.out] at hr hr2
    have hnil : v.oneCell' = true ∧ (v = .slice none 0 0 ∨ ∃ g c, v = .slice (some ⟨g, 0, none⟩) n c) := by
      rcases hr.2 with ⟨rfl, _⟩ | ⟨g, cap, _, rfl, _⟩
      · exact ⟨rfl, .inl rfl⟩
      · exact ⟨rfl, .inr ⟨_, _, rfl⟩⟩
    rcases hnil.2 with rfl | ⟨g', c', rfl⟩
    all_goals gi_wp2
    all_goals refine ⟨by simp, .inl ⟨_, _, rfl, run_takeDeferred hK, ?_⟩⟩
    all_goals refine ⟨_, results_tmp rfl _ _ _, _, rfl, ?_, hB.trans (belowK_b (w := w) (Nat.le_refl _) W D _ _ (by simp at hD; omega) hK rfl rfl)⟩
    all_goals exact hr2
  case stop =>
    rintro D c pre W _ _ h _
    exact h.elim

theorem collect_any (g sb cp m n : Nat) (ls : List (List Int)) (hn : ls.length = n) (hn6 : n ≤ 1048576) (w : World) (hg : g < w.heap.size) (hR : Chs w g m ls) (hS : Boxed w sb 65 (.slice (some ⟨g, 0, none⟩) n cp)) :
    Calls Tryz.prog 146 #[.func (.func 148) #[] #[.pointer (some ⟨sb, 0, none⟩)]] w fun e w' => ∃ v, e = .returned v ∧ w'.ownsRow w.heap.size 58 7 v n (cwc m ls) ∧ Below w.heap.size w w' := by
  have hA := appendSeq_any g sb cp m n ls hn hn6 w hg hR hS
  clear hn hR hS
  go_enter Tryz.func146, Tryz.ntmps146
  go_wp2_with fail
  refine hA.mono ?_
  rintro e w' ⟨v, rfl, hown, hb⟩
  go_wp2
  go_ret
  exact ⟨_, rfl, hown, hb⟩
end

end Go.Proofs.YtkfiehndlgplgaaGreatDoor
