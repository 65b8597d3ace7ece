/-
  (impl.chart).times.
-/
import Derived.Test.YtoomeimloaloaaaTurned
namespace Go.Proofs.Ytoomeimloaloaaa
set_option maxRecDepth 100000
open Go.RowKit Go.Shelf
attribute [local go_sem] Oper.semAt_some


set_option maxRecDepth 100000 in
set_option maxHeartbeats 1000000 in
theorem times_any (n : Nat) (hn : n ≤ 6) (T : Nat → Int) (hT : Ok n T) (m : Nat) (G : Nat → Int) (w : World) :
    Calls Try.prog 28 #[.agg #[.int .i64 ((n : Int)), .int .i64 (T 0), .int .i64 (T 1), .int .i64 (T 2), .int .i64 (T 3), .int .i64 (T 4), .int .i64 (T 5)], .agg #[.int .i64 ((m : Int)), .int .i64 (G 0), .int .i64 (G 1), .int .i64 (G 2), .int .i64 (G 3), .int .i64 (G 4), .int .i64 (G 5)]] w fun e w' => ∃ T' : Nat → Int, e = .returned (.agg #[.int .i64 ((n : Int)), .int .i64 (T' 0), .int .i64 (T' 1), .int .i64 (T' 2), .int .i64 (T' 3), .int .i64 (T' 4), .int .i64 (T' 5)]) ∧ Hid (∀ j, j < 6 → T' j = timesL n G (mv T n) j) ∧ Below w.heap.size w w' := by
  refine (callsIn_wide (n := 3)).1 ?_
  refine callsIn_of_wp_marks Try.func28 rfl trivial ?_ rfl
  simp only [Try.ntmps28, List.size_toArray, List.length_cons, List.length_nil, Nat.reduceAdd, Nat.reduceSub, Array.replicate_succ, Array.replicate_zero, List.push_toArray, List.append_toArray, List.nil_append, List.cons_append]
  gi_wp2_with fail
  refine ⟨trivial, (callsIn_wide.2 (still_any n hn _)).mono ?_⟩
  rintro e w1 ⟨T0, rfl, HT0, hb⟩
  have hc0 := (((Cb.new w n T).alloc (.cells #[.int .i64 ((m : Int)), .int .i64 (G 0), .int .i64 (G 1), .int .i64 (G 2), .int .i64 (G 3), .int .i64 (G 4), .int .i64 (G 5)] 38)).alloc (.cells #[.int .i64 ((0 : Int)), .int .i64 ((fun _ => (0 : Int)) 0), .int .i64 ((fun _ => (0 : Int)) 1), .int .i64 ((fun _ => (0 : Int)) 2), .int .i64 ((fun _ => (0 : Int)) 3), .int .i64 ((fun _ => (0 : Int)) 4), .int .i64 ((fun _ => (0 : Int)) 5)] 38)).below hb (by simp <;> omega)
  have hcd : Cb w1 (w.heap.size + 1) m G := by
    have := ((Cb.new (w.alloc (.cells #[.int .i64 ((n : Int)), .int .i64 (T 0), .int .i64 (T 1), .int .i64 (T 2), .int .i64 (T 3), .int .i64 (T 4), .int .i64 (T 5)] 38)) m G).alloc (.cells #[.int .i64 ((0 : Int)), .int .i64 ((fun _ => (0 : Int)) 0), .int .i64 ((fun _ => (0 : Int)) 1), .int .i64 ((fun _ => (0 : Int)) 2), .int .i64 ((fun _ => (0 : Int)) 3), .int .i64 ((fun _ => (0 : Int)) 4), .int .i64 ((fun _ => (0 : Int)) 5)] 38)).below hb (by simp <;> omega)
    simpa only [World.size_alloc] using this
  have hc1 := (Cb.new ((w.alloc (.cells #[.int .i64 ((n : Int)), .int .i64 (T 0), .int .i64 (T 1), .int .i64 (T 2), .int .i64 (T 3), .int .i64 (T 4), .int .i64 (T 5)] 38)).alloc (.cells #[.int .i64 ((m : Int)), .int .i64 (G 0), .int .i64 (G 1), .int .i64 (G 2), .int .i64 (G 3), .int .i64 (G 4), .int .i64 (G 5)] 38)) 0 (fun _ => 0)).below hb (by simp)
  simp only [World.size_alloc] at hc1
  have hB1 : Below w.heap.size w w1 := ((((Below.refl _ w).alloc (Nat.le_refl _) _).alloc (by simp) _).alloc (by simp <;> omega) _).trans (hb.mono (by simp <;> omega))
  have hz : w.heap.size + 3 ≤ w1.heap.size := by have := hb.size; simpa using this
  have hz0 : w.heap.size < w1.heap.size := by omega
  have hz1 : w.heap.size + 1 < w1.heap.size := by omega
  have hz2 : w.heap.size + 1 + 1 < w1.heap.size := by omega
  clear hb
  obtain ⟨c0, c1, c2, c3, c4, c5, c6⟩ := hc0.all
  gi_wp2_with fail
  refine ⟨trivial, (moved_in Fence.wide 2 trivial rfl _ _ _).mono ?_⟩
  rintro e w2 ⟨rfl, rfl⟩
  have hS := (Cb.new w1 n T0).alloc (.cells #[.int .i64 ((n : Int)), .int .i64 (T 0), .int .i64 (T 1), .int .i64 (T 2), .int .i64 (T 3), .int .i64 (T 4), .int .i64 (T 5)] 38)
  have hM := Cb.new (w1.alloc (.cells #[.int .i64 ((n : Int)), .int .i64 (T0 0), .int .i64 (T0 1), .int .i64 (T0 2), .int .i64 (T0 3), .int .i64 (T0 4), .int .i64 (T0 5)] 38)) n T
  rw [World.size_alloc] at hM
  have hR := (hc1.alloc (.cells #[.int .i64 ((n : Int)), .int .i64 (T0 0), .int .i64 (T0 1), .int .i64 (T0 2), .int .i64 (T0 3), .int .i64 (T0 4), .int .i64 (T0 5)] 38)).alloc (.cells #[.int .i64 ((n : Int)), .int .i64 (T 0), .int .i64 (T 1), .int .i64 (T 2), .int .i64 (T 3), .int .i64 (T 4), .int .i64 (T 5)] 38)
  have hE := (hcd.alloc (.cells #[.int .i64 ((n : Int)), .int .i64 (T0 0), .int .i64 (T0 1), .int .i64 (T0 2), .int .i64 (T0 3), .int .i64 (T0 4), .int .i64 (T0 5)] 38)).alloc (.cells #[.int .i64 ((n : Int)), .int .i64 (T 0), .int .i64 (T 1), .int .i64 (T 2), .int .i64 (T 3), .int .i64 (T 4), .int .i64 (T 5)] 38)
  have hB2 : Below w.heap.size w ((w1.alloc (.cells #[.int .i64 ((n : Int)), .int .i64 (T0 0), .int .i64 (T0 1), .int .i64 (T0 2), .int .i64 (T0 3), .int .i64 (T0 4), .int .i64 (T0 5)] 38)).alloc (.cells #[.int .i64 ((n : Int)), .int .i64 (T 0), .int .i64 (T 1), .int .i64 (T 2), .int .i64 (T 3), .int .i64 (T 4), .int .i64 (T 5)] 38)) := (hB1.alloc (by omega) _).alloc (by simp <;> omega) _
  have hS0 := hS.congr (T' := timesL n G []) (fun j _ => HT0.out j)
  clear hc0 hc1 hB1 c0 c1 c2 c3 c4 c5 c6 HT0 hS hcd
  gi_wp2
  refine wpIn_rangeFunc_ownG rfl (by omega) (gf := 47) (lb := #[.pointer (some ⟨w1.heap.size + 1, 0, none⟩)]) rfl trivial (enters_of Try.func47 (by kernel_rfl) rfl)
    (moved_stops Fence.wide 2 trivial rfl (by omega) (w1.heap.size + 1) n hn T hT _ hM) Kb_t (Kb_b (by simp)) (Below.refl _ _) (fun _ => rfl)
    (fun pre W => (Cb W w1.heap.size n (timesL n G pre) ∧ Cb W (w.heap.size + 1 + 1) 0 (fun _ => 0) ∧ Cb W (w.heap.size + 1) m G) ∧ Below w.heap.size w W)
    (fun _ _ _ => False)
    (OwnFrom.and (Own.from (fun s A B row hs hg hr => ⟨cb_own _ _ (timesL n G) s A B row hs.1 hg hr, cb_own _ _ (fun _ : List Pt => fun _ => (0 : Int)) s A B row hs.2.1 hg hr, cb_own _ _ (fun _ : List Pt => G) s A B row hs.2.2 hg hr⟩) _) (ownFrom_below (Nat.le_refl _) (by simp <;> omega)))
    (fun _ _ _ _ _ hs _ _ => hs)
    ⟨⟨hS0, hR, hE⟩, hB2⟩
    (fun x => { tmps := #[.agg #[.int .i64 ((n : Int)), .int .i64 (T 0), .int .i64 (T 1), .int .i64 (T 2), .int .i64 (T 3), .int .i64 (T 4), .int .i64 (T 5)], .agg #[.int .i64 ((m : Int)), .int .i64 (G 0), .int .i64 (G 1), .int .i64 (G 2), .int .i64 (G 3), .int .i64 (G 4), .int .i64 (G 5)], .pointer (some ⟨w.heap.size, 0, none⟩), .pointer (some ⟨w.heap.size + 1, 0, none⟩), .pointer (some ⟨w.heap.size + 1 + 1, 0, none⟩), .pointer (some ⟨w1.heap.size, 0, none⟩), .int .i64 (x.1.1 : Int), .int .i64 x.1.2,
      .pointer (some ⟨w.heap.size, 0, none⟩), .int .i64 n, .agg #[.int .i64 ((n : Int)), .int .i64 (T0 0), .int .i64 (T0 1), .int .i64 (T0 2), .int .i64 (T0 3), .int .i64 (T0 4), .int .i64 (T0 5)], .agg #[.int .i64 ((n : Int)), .int .i64 (T 0), .int .i64 (T 1), .int .i64 (T 2), .int .i64 (T 3), .int .i64 (T 4), .int .i64 (T 5)], .func (.func 47) #[] #[.pointer (some ⟨w1.heap.size + 1, 0, none⟩)], .int .i64 (x.1.1 : Int), .int .i64 x.1.2, undef, undef, undef, undef, undef, undef, undef, undef], defers := [] }) ?assign ?body ?done ?stop
  case assign =>
    intro l x W K hK
    gi_wp2
    exact hK
  case body =>
    rintro l pre ⟨⟨i, t⟩, hi, ht0, ht6⟩ W ⟨⟨hS, hR, hE⟩, hB⟩ _
    obtain ⟨u, rfl⟩ := Int.eq_ofNat_of_zero_le ht0
    have hu : u < 6 := by omega
    have hi' : i < 6 := hi
    have e1 := hS.at_ hi'
    have e2 := hS.frozen (1 + i)
    have e3 := hE.at_ hu
    have hS' := hS.set_ i (G u)
    have hR' := hR.other (a := ⟨w1.heap.size, 1 + i, none⟩) (by simp <;> omega) (.int .i64 (G u))
    have hE' := hE.other (a := ⟨w1.heap.size, 1 + i, none⟩) (by simp <;> omega) (.int .i64 (G u))
    have hB' := hB.setCell (p := ⟨w1.heap.size, 1 + i, none⟩) (by simp <;> omega) (.int .i64 (G u))
    clear hS hR hB hE
    gi_wp2
    refine ⟨(KeepsOthers.setCell _ _ _).from _, Below.heap_setCell _ _ _ _ (by simp), ⟨?_, hR', hE'⟩, hB'⟩
    refine hS'.congr (fun j _ => ?_)
    rw [timesL_snoc]; simp [timesS]
  case done =>
    rintro D ys W hD rfl ⟨⟨hS, hR, hE⟩, hB⟩ hK
    generalize hT' : timesL n G (mv T n) = T' at hS
    have HT' := Lib.hid hT'
    clear hT' hE
    obtain ⟨a0, a1, a2, a3, a4, a5, a6⟩ := hR.all
    obtain ⟨b0, b1, b2, b3, b4, b5, b6⟩ := hR.frees
    obtain ⟨c0, c1, c2, c3, c4, c5, c6⟩ := hS.all
    gi_wp2
    obtain ⟨hK', hX⟩ := fin7 (n := (n : Int)) (T := T') hR hK
    obtain ⟨q0, q1, q2, q3, q4, q5, q6⟩ := hX.all
    refine ⟨by simp, .inl ⟨_, _, rfl, run_takeDeferred hK', ?_⟩⟩
    refine ⟨.agg #[.int .i64 ((n : Int)), .int .i64 (T' 0), .int .i64 (T' 1), .int .i64 (T' 2), .int .i64 (T' 3), .int .i64 (T' 4), .int .i64 (T' 5)], ?_, T', rfl, fun j _ => by rw [HT'.out], (below_set7 hB (by omega) _ _ _ _ _ _ _).trans (belowK_b (w := w) (Nat.le_refl _) _ D _ _ (by simp at hD; omega) hK' rfl rfl)⟩
    simp [results, Try.f28, go_sem, q0, q1, q2, q3, q4, q5, q6]
  case stop =>
    rintro D c pre W _ _ h _
    exact h.elim
end Go.Proofs.Ytoomeimloaloaaa
