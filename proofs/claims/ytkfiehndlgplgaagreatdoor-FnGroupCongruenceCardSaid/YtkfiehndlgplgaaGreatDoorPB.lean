/-
  Aa.
-/
import Derived.Deep.RegionHeld3
import Derived.Test.YtkfiehndlgplgaaGreatDoorMB
import Derived.Test.YtkfiehndlgplgaaGreatDoorMC
namespace Go.Proofs.YtkfiehndlgplgaaGreatDoor
set_option maxRecDepth 100000
set_option linter.unusedVariables false
set_option linter.unusedSimpArgs false
set_option linter.unusedSectionVars false

/-! impl.arrowOf, impl.arrowPair; ArrowJoins, ArrowTimes on both sides. -/
section
open Go.RowKit

/-- where an arrow ends -/
def imN (n : Nat) (T : Nat → Int) : Nat := domL (mv (turnL n (mv T n)) n)
theorem imN_congr {n : Nat} {T T' : Nat → Int} (hn : n ≤ 6) (h : ∀ j, j < 6 → T j = T' j) : imN n T = imN n T' := by unfold imN; rw [turnL_congr hn h]
theorem doN_congr {n : Nat} {T T' : Nat → Int} (hn : n ≤ 6) (h : ∀ j, j < 6 → T j = T' j) : domL (mv T n) = domL (mv T' n) := by rw [mv_congr (fun j hj => h j (by omega))]
/-- both join -/
def joB (f g : List Int) : Bool := isP f g && decide (raN f = doN g)
def atL (f g : List Int) : List Int := if joB f g = true then tiL f g else []
theorem atL_le (f g : List Int) : (atL f g).length ≤ 6 := by unfold atL; split; exact tiL_le f g; simp

theorem raN_im {f g : List Int} (h : isP f g = true) : imN (pk f g) (pF f g) = raN f := by
  obtain ⟨hf, _, _⟩ := isP_yes h
  rw [pk_yes h, pF_yes h]; unfold imN raN; rw [fk_yes hf, mv_congr (fun j _ => fT_yes hf j)]
theorem doN_pG {f g : List Int} (h : isP f g = true) : domL (mv (pG f g) (pk f g)) = doN g := by
  obtain ⟨_, hg, hl⟩ := isP_yes h
  rw [pk_yes h, pG_yes h, hl]; unfold doN; rw [fk_yes hg, mv_congr (fun j _ => fT_yes hg j)]
theorem joB_no {f g : List Int} (h : isP f g = false) : joB f g = false := by unfold joB; rw [h]; rfl
theorem joB_eq {f g : List Int} (h : isP f g = true) : joB f g = decide (raN f = doN g) := by unfold joB; rw [h]; rfl
theorem eq_nat (a b : Nat) : ((a : Int) == (b : Int)) = decide (a = b) := by
  by_cases e : a = b
  · simp [e]
  · rw [decide_eq_false e]; simp; omega

theorem Cb.far {W : World} {b : Nat} {n : Int} {T : Nat → Int} (h : Cb W b n T) {p : Addr} (hp : b ≠ p.block) (u : Value) : Cb (W.setCell p u) b n T := World.rowIs.of_block h (Below.heap_setCell W p u b hp)
theorem b9 {W : World} {g : Nat} (h' : Blk W g 142 #[.int .i64 ((0 : Int)), .int .i64 ((fun _ => (0 : Int)) 0), .int .i64 ((fun _ => (0 : Int)) 1), .int .i64 ((fun _ => (0 : Int)) 2), .int .i64 ((fun _ => (0 : Int)) 3), .int .i64 ((fun _ => (0 : Int)) 4), .int .i64 ((fun _ => (0 : Int)) 5), .int .i64 ((0 : Int)), .int .i64 ((0 : Int))]) :
    W.cell? ⟨g, 0, none⟩ = some (.int .i64 0) ∧ W.cell? ⟨g, 1, none⟩ = some (.int .i64 0) ∧ W.cell? ⟨g, 2, none⟩ = some (.int .i64 0) ∧ W.cell? ⟨g, 3, none⟩ = some (.int .i64 0) ∧ W.cell? ⟨g, 4, none⟩ = some (.int .i64 0) ∧ W.cell? ⟨g, 5, none⟩ = some (.int .i64 0) ∧ W.cell? ⟨g, 6, none⟩ = some (.int .i64 0) ∧ W.cell? ⟨g, 7, none⟩ = some (.int .i64 0) ∧ W.cell? ⟨g, 8, none⟩ = some (.int .i64 0) ∧ W.frozen? ⟨g, 0, none⟩ = false ∧ W.frozen? ⟨g, 1, none⟩ = false ∧ W.frozen? ⟨g, 2, none⟩ = false ∧ W.frozen? ⟨g, 3, none⟩ = false ∧ W.frozen? ⟨g, 4, none⟩ = false ∧ W.frozen? ⟨g, 5, none⟩ = false ∧ W.frozen? ⟨g, 6, none⟩ = false ∧ W.frozen? ⟨g, 7, none⟩ = false ∧ W.frozen? ⟨g, 8, none⟩ = false ∧ g < W.heap.size :=
  ⟨h'.cell 0, h'.cell 1, h'.cell 2, h'.cell 3, h'.cell 4, h'.cell 5, h'.cell 6, h'.cell 7, h'.cell 8, h'.frozen 0, h'.frozen 1, h'.frozen 2, h'.frozen 3, h'.frozen 4, h'.frozen 5, h'.frozen 6, h'.frozen 7, h'.frozen 8, h'.lt⟩
theorem blk_keep {W W0 W1 : World} {g : Nat} {t : TypeId} {cs : Array Value} (hb : Below W0.heap.size W0 W1) (h : Blk W g t cs) (e : W0.heap = W.heap) : Blk W1 g t cs := by
  have h0 : Blk W0 g t cs := by unfold Blk at h ⊢; rw [e]; exact h
  exact h0.below hb h0.lt
set_option maxHeartbeats 600000 in
theorem arrowOf_any (n : Nat) (hn : n ≤ 6) (T : Nat → Int) (hT : Ok n T) (w : World) :
    Calls Tryz.prog 130 #[.agg #[.int .i64 ((n : Int)), .int .i64 (T 0), .int .i64 (T 1), .int .i64 (T 2), .int .i64 (T 3), .int .i64 (T 4), .int .i64 (T 5)]] w fun e w' => e = .returned (.agg #[.int .i64 ((n : Int)), .int .i64 (T 0), .int .i64 (T 1), .int .i64 (T 2), .int .i64 (T 3), .int .i64 (T 4), .int .i64 (T 5), .int .i64 ((domL (mv T n) : Nat)), .int .i64 ((imN n T : Nat))]) ∧ Below w.heap.size w w' := by
  have hc := (Cb.new w n T).alloc (.cells #[.int .i64 ((0 : Int)), .int .i64 ((fun _ => (0 : Int)) 0), .int .i64 ((fun _ => (0 : Int)) 1), .int .i64 ((fun _ => (0 : Int)) 2), .int .i64 ((fun _ => (0 : Int)) 3), .int .i64 ((fun _ => (0 : Int)) 4), .int .i64 ((fun _ => (0 : Int)) 5), .int .i64 ((0 : Int)), .int .i64 ((0 : Int))] 142)
  have hr := Blk.new (w.alloc (.cells #[.int .i64 ((n : Int)), .int .i64 (T 0), .int .i64 (T 1), .int .i64 (T 2), .int .i64 (T 3), .int .i64 (T 4), .int .i64 (T 5)] 58)) 142 #[.int .i64 ((0 : Int)), .int .i64 ((fun _ => (0 : Int)) 0), .int .i64 ((fun _ => (0 : Int)) 1), .int .i64 ((fun _ => (0 : Int)) 2), .int .i64 ((fun _ => (0 : Int)) 3), .int .i64 ((fun _ => (0 : Int)) 4), .int .i64 ((fun _ => (0 : Int)) 5), .int .i64 ((0 : Int)), .int .i64 ((0 : Int))]
  rw [World.size_alloc] at hr
  have hB : Below w.heap.size w ((w.alloc (.cells #[.int .i64 ((n : Int)), .int .i64 (T 0), .int .i64 (T 1), .int .i64 (T 2), .int .i64 (T 3), .int .i64 (T 4), .int .i64 (T 5)] 58)).alloc (.cells #[.int .i64 ((0 : Int)), .int .i64 ((fun _ => (0 : Int)) 0), .int .i64 ((fun _ => (0 : Int)) 1), .int .i64 ((fun _ => (0 : Int)) 2), .int .i64 ((fun _ => (0 : Int)) 3), .int .i64 ((fun _ => (0 : Int)) 4), .int .i64 ((fun _ => (0 : Int)) 5), .int .i64 ((0 : Int)), .int .i64 ((0 : Int))] 142)) := ((Below.refl _ w).alloc (Nat.le_refl _) _).alloc (by simp) _
  have hne : w.heap.size ≠ w.heap.size + 1 := by omega
  go_enter Tryz.func130, Tryz.ntmps130
  go_wp2_with fail
  generalize (w.alloc (.cells #[.int .i64 ((n : Int)), .int .i64 (T 0), .int .i64 (T 1), .int .i64 (T 2), .int .i64 (T 3), .int .i64 (T 4), .int .i64 (T 5)] 58)).alloc (.cells #[.int .i64 ((0 : Int)), .int .i64 ((fun _ => (0 : Int)) 0), .int .i64 ((fun _ => (0 : Int)) 1), .int .i64 ((fun _ => (0 : Int)) 2), .int .i64 ((fun _ => (0 : Int)) 3), .int .i64 ((fun _ => (0 : Int)) 4), .int .i64 ((fun _ => (0 : Int)) 5), .int .i64 ((0 : Int)), .int .i64 ((0 : Int))] 142) = W0 at hc hr hB ⊢
  refine wp_region_held_drew (S := (fun w' => w'.cell? ⟨w.heap.size, 0, none⟩ = some (.int .i64 n) ∧ w'.cell? ⟨w.heap.size, 1, none⟩ = some (.int .i64 (T 0)) ∧ w'.cell? ⟨w.heap.size, 2, none⟩ = some (.int .i64 (T 1)) ∧ w'.cell? ⟨w.heap.size, 3, none⟩ = some (.int .i64 (T 2)) ∧ w'.cell? ⟨w.heap.size, 4, none⟩ = some (.int .i64 (T 3)) ∧ w'.cell? ⟨w.heap.size, 5, none⟩ = some (.int .i64 (T 4)) ∧ w'.cell? ⟨w.heap.size, 6, none⟩ = some (.int .i64 (T 5)))) (by kernel_rfl) ?_ (fun hHeld => ?_)
  · exact hc.all
  refine wpAnyH_take (i := 0) (v := .agg #[.int .i64 ((n : Int)), .int .i64 (T 0), .int .i64 (T 1), .int .i64 (T 2), .int .i64 (T 3), .int .i64 (T 4), .int .i64 (T 5)]) (by rw [List.getElem?_toArray]; rfl) (by kernel_rfl) (by kernel_rfl) (by kernel_rfl) (by exact fun _ _ _ h => h) (Or.inl ⟨by rfl, fun w hSw => by (try dsimp only at hSw); go_simp⟩) (by assumption) ?_
  try simp only [Act.put, List.setIfInBounds_toArray, List.set_cons_zero, List.set_cons_succ]
  refine wpAnyH_take (i := 1) (v := .agg #[.int .i64 ((n : Int)), .int .i64 (T 0), .int .i64 (T 1), .int .i64 (T 2), .int .i64 (T 3), .int .i64 (T 4), .int .i64 (T 5)]) (by rw [List.getElem?_toArray]; rfl) (by kernel_rfl) (by kernel_rfl) (by kernel_rfl) (by exact fun _ _ _ h => h) (Or.inl ⟨by rfl, fun w hSw => by (try dsimp only at hSw); go_simp⟩) (by assumption) ?_
  try simp only [Act.put, List.setIfInBounds_toArray, List.set_cons_zero, List.set_cons_succ]
  refine wpAnyH_take (i := 3) (v := .agg #[.int .i64 ((n : Int)), .int .i64 (T 0), .int .i64 (T 1), .int .i64 (T 2), .int .i64 (T 3), .int .i64 (T 4), .int .i64 (T 5)]) (by rw [List.getElem?_toArray]; rfl) (by kernel_rfl) (by kernel_rfl) (by kernel_rfl) (by exact fun _ _ _ h => h) (Or.inl ⟨by rfl, fun w hSw => by (try dsimp only at hSw); go_simp⟩) (by assumption) ?_
  try simp only [Act.put, List.setIfInBounds_toArray, List.set_cons_zero, List.set_cons_succ]
  refine wpAnyH_ready (rs := [2]) (by kernel_rfl) (by simp) ?_
  refine AllReadyH.cons (o := _) (by rw [List.getElem?_toArray]; rfl) (fun K hK => ?_) AllReadyH.nil
  go_simp
  refine (domain_any n hn T hT _).mono ?_
  rintro e w1 ⟨rfl, hb1⟩
  have hc := cb_keep hb1 hc rfl
  have hr := blk_keep hb1 hr rfl
  have hB := bel_keep hb1 hB rfl rfl rfl rfl hB.size
  clear hb1
  refine hK.out _ _ ?_ (fun hHeld2 => ?_)
  · exact hc.all
  clear hK K
  try simp only [Act.put, List.setIfInBounds_toArray, List.set_cons_zero, List.set_cons_succ]
  refine wpAnyH_ready (rs := [4]) (by kernel_rfl) (by simp) ?_
  refine AllReadyH.cons (o := _) (by rw [List.getElem?_toArray]; rfl) (fun K hK => ?_) AllReadyH.nil
  go_simp
  refine (image_any n hn T hT _).mono ?_
  rintro e w1 ⟨rfl, hb1⟩
  have hc := cb_keep hb1 hc rfl
  have hr := blk_keep hb1 hr rfl
  have hB := bel_keep hb1 hB rfl rfl rfl rfl hB.size
  clear hb1
  obtain ⟨q0, q1, q2, q3, q4, q5, q6, q7, q8, f0, f1, f2, f3, f4, f5, f6, f7, f8, hlt⟩ := b9 hr
  refine hK.out _ _ ?_ (fun hHeld4 => ?_)
  · exact hc.all
  clear hK K
  try simp only [Act.put, List.setIfInBounds_toArray, List.set_cons_zero, List.set_cons_succ]
  refine wpAnyH_take (i := 5) (v := .agg #[.int .i64 ((n : Int)), .int .i64 (T 0), .int .i64 (T 1), .int .i64 (T 2), .int .i64 (T 3), .int .i64 (T 4), .int .i64 (T 5), .int .i64 ((domL (mv T n) : Nat)), .int .i64 ((domL (mv (turnL n (mv T n)) n) : Nat))]) (by rw [List.getElem?_toArray]; rfl) (by kernel_rfl) (by kernel_rfl) (by kernel_rfl) (by exact fun _ _ _ h => h) (Or.inl ⟨by rfl, fun w hSw => by (try dsimp only at hSw); go_simp⟩) (by assumption) ?_
  try simp only [Act.put, List.setIfInBounds_toArray, List.set_cons_zero, List.set_cons_succ]
  refine wpAnyH_ready (rs := [6]) (by kernel_rfl) (by simp) ?_
  refine AllReadyH.cons (o := _) (by rw [List.getElem?_toArray]; rfl) (fun K hK => ?_) AllReadyH.nil
  go_simp
  refine hK.out _ _ ?_ (fun hHeld6 => ?_)
  · exact (((((((((hc.far hne _).far hne _).far hne _).far hne _).far hne _).far hne _).far hne _).far hne _).far hne _).all
  clear hK K
  try simp only [Act.put, List.setIfInBounds_toArray, List.set_cons_zero, List.set_cons_succ]
  refine wpAnyH_done (by kernel_rfl) ?_ _
  have HBF := Lib.hid ((((((((((hB).setCell (p := ⟨w.heap.size + 1, 0, none⟩) (Nat.le_succ _) (.int .i64 (n : Int))).setCell (p := ⟨w.heap.size + 1, 1, none⟩) (Nat.le_succ _) (.int .i64 (T 0))).setCell (p := ⟨w.heap.size + 1, 2, none⟩) (Nat.le_succ _) (.int .i64 (T 1))).setCell (p := ⟨w.heap.size + 1, 3, none⟩) (Nat.le_succ _) (.int .i64 (T 2))).setCell (p := ⟨w.heap.size + 1, 4, none⟩) (Nat.le_succ _) (.int .i64 (T 3))).setCell (p := ⟨w.heap.size + 1, 5, none⟩) (Nat.le_succ _) (.int .i64 (T 4))).setCell (p := ⟨w.heap.size + 1, 6, none⟩) (Nat.le_succ _) (.int .i64 (T 5))).setCell (p := ⟨w.heap.size + 1, 7, none⟩) (Nat.le_succ _) (.int .i64 (domL (mv T n) : Nat))).setCell (p := ⟨w.heap.size + 1, 8, none⟩) (Nat.le_succ _) (.int .i64 (domL (mv (turnL n (mv T n)) n) : Nat)))
  clear hc hr hB hHeld hHeld2 hHeld4 hHeld6
  go_wp2
  exact bodyPost_ret (v := .agg #[.int .i64 ((n : Int)), .int .i64 (T 0), .int .i64 (T 1), .int .i64 (T 2), .int .i64 (T 3), .int .i64 (T 4), .int .i64 (T 5), .int .i64 ((domL (mv T n) : Nat)), .int .i64 ((imN n T : Nat))]) (by simp [results, Tryz.results130, go_sem, imN, hlt, q0, q1, q2, q3, q4, q5, q6, q7, q8]) rfl ⟨rfl, HBF.out⟩
end

end Go.Proofs.YtkfiehndlgplgaaGreatDoor
