/-
  Nb.
-/
import Derived.Deep.RegionHeld3
import Derived.Test.YtlcjgppclclkoaaDoorTB
namespace Go.Proofs.YtlcjgppclclkoaaDoor
set_option maxRecDepth 100000
set_option linter.unusedVariables false
set_option linter.unusedSimpArgs false
set_option linter.unusedSectionVars false

/-! impl.inverse, (*impl.node).neighbour. -/
section
open Go.RowKit

/-- what is not a node's stays -/
structure Kp (N : List (List (Fin 4))) (m : List (Fin 4) → Nat) (w w' : World) : Prop where
  os : w'.os = w.os
  tape : w'.tape = w.tape
  output : w'.output = w.output
  size : w.heap.size ≤ w'.heap.size
  block : ∀ k, k < w.heap.size → (∀ x ∈ N, m x ≠ k) → w'.heap[k]? = w.heap[k]?
/-- more nodes: the old ones where they were, the new ones in new blocks -/
structure More (w w' : World) (base : Nat) (N N' : List (List (Fin 4))) (m m' : List (Fin 4) → Nat) : Prop where
  gr : Gr w' base N' m'
  old : ∀ x ∈ N, x ∈ N' ∧ m' x = m x
  new_ : ∀ x ∈ N', x ∈ N ∨ w.heap.size ≤ m' x
  kp : Kp N m w w'
theorem Kp.refl (N : List (List (Fin 4))) (m : List (Fin 4) → Nat) (w : World) : Kp N m w w := ⟨rfl, rfl, rfl, Nat.le_refl _, fun _ _ _ => rfl⟩
section
variable {w w' w'' : World} {base : Nat} {N N' N'' : List (List (Fin 4))} {m m' m'' : List (Fin 4) → Nat}
theorem More.refl (h : Gr w base N m) : More w w base N N m m := ⟨h, fun x hx => ⟨hx, rfl⟩, fun x hx => .inl hx, Kp.refl _ _ _⟩
theorem More.trans (h : More w w' base N N' m m') (k : More w' w'' base N' N'' m' m'') : More w w'' base N N'' m m'' := by
  refine ⟨k.gr, fun x hx => ⟨(k.old x (h.old x hx).1).1, ((k.old x (h.old x hx).1).2).trans (h.old x hx).2⟩, fun x hx => ?_, ⟨k.kp.os.trans h.kp.os, k.kp.tape.trans h.kp.tape, k.kp.output.trans h.kp.output, Nat.le_trans h.kp.size k.kp.size, fun b hb hn => ?_⟩⟩
  · rcases k.new_ x hx with h' | h'
    · rcases h.new_ x h' with h2 | h2
      · exact .inl h2
      · exact .inr (by rw [(k.old x h').2]; exact h2)
    · exact .inr (Nat.le_trans h.kp.size h')
  · refine (k.kp.block b (Nat.lt_of_lt_of_le hb h.kp.size) (fun x hx e => ?_)).trans (h.kp.block b hb hn)
    rcases h.new_ x hx with h' | h'
    · exact hn x h' (by rw [← (h.old x h').2]; exact e)
    · omega
/-- ahead of it, new blocks that are no nodes -/
theorem More.ahead (hb : Below w.heap.size w w') (h : More w' w'' base N N' m m') : More w w'' base N N' m m' :=
  ⟨h.gr, h.old, fun x hx => (h.new_ x hx).imp id (fun e => Nat.le_trans hb.size e), ⟨h.kp.os.trans hb.os, h.kp.tape.trans hb.tape, h.kp.output.trans hb.output, Nat.le_trans hb.size h.kp.size, fun k hk hn => (h.kp.block k (Nat.lt_of_lt_of_le hk hb.size) hn).trans (hb.block k hk)⟩⟩
/-- behind it -/
theorem More.behind (h : More w w' base N N' m m') (hb : Below w'.heap.size w' w'') : More w w'' base N N' m m' :=
  ⟨h.gr.below hb, h.old, h.new_, ⟨hb.os.trans h.kp.os, hb.tape.trans h.kp.tape, hb.output.trans h.kp.output, Nat.le_trans h.kp.size hb.size, fun k hk hn => (hb.block k (Nat.lt_of_lt_of_le hk h.kp.size)).trans (h.kp.block k hk hn)⟩⟩
theorem More.below (h : More w w' base N N' m m') (hl : ∀ x ∈ N, base ≤ m x) (hb : base ≤ w.heap.size) : Below base w w' :=
  ⟨h.kp.os, h.kp.tape, h.kp.output, h.kp.size, fun k hk => h.kp.block k (by omega) (fun x hx e => by have := hl x hx; omega)⟩
theorem More.drew (h : More w w' base N N' m m') : More w w'.drew base N N' m m' := ⟨⟨h.gr.tre, h.gr.lo, h.gr.blk, h.gr.inj⟩, h.old, h.new_, ⟨h.kp.os, h.kp.tape, h.kp.output, h.kp.size, h.kp.block⟩⟩
end
theorem More.like {w w' w'' : World} {base : Nat} {N N' : List (List (Fin 4))} {m m' : List (Fin 4) → Nat} (h : More w w' base N N' m m') (e : w''.heap = w'.heap) (e1 : w''.os = w'.os) (e2 : w''.tape = w'.tape) (e3 : w''.output = w'.output) : More w w'' base N N' m m' :=
  h.behind ⟨e1, e2, e3, by rw [e]; exact Nat.le_refl _, fun k _ => by rw [e]⟩
theorem kp_addW {w : World} {base : Nat} {N : List (List (Fin 4))} {m : List (Fin 4) → Nat} {u : List (Fin 4)} {c : Fin 4} (h : Gr w base N m) (hu : u ∈ N) : Kp N m w (addW w (m u) c) := by
  refine ⟨rfl, rfl, rfl, by simp [addW, World.setCell], fun k hk hn => ?_⟩
  unfold addW
  rw [Below.heap_setCell _ _ _ _ (fun e => by have e' : k = w.heap.size := e; omega), Below.heap_setCell _ _ _ _ (fun e => hn u hu (show m u = k from e.symm)), Below.heap_alloc w _ _ hk]
theorem more_add {w : World} {base : Nat} {N : List (List (Fin 4))} {m : List (Fin 4) → Nat} {u : List (Fin 4)} {c : Fin 4} (h : Gr w base N m) (hu : u ∈ N) (hn : stp u c ∉ N) (hb : base ≤ w.heap.size) :
    More w (addW w (m u) c) base N (N ++ [stp u c]) m (addM m (stp u c) w.heap.size) :=
  ⟨h.add hu hn hb, fun x hx => ⟨List.mem_append_left _ hx, addM_old (fun e => hn (by rw [← e]; exact hx))⟩, fun x hx => by
    rcases List.mem_append.1 hx with h' | h'
    · exact .inl h'
    · exact .inr (by rw [List.mem_singleton.1 h', addM_new]; exact Nat.le_refl _), kp_addW h hu⟩

theorem inverse_any (c : Fin 4) (w : World) : Calls Tryd.prog 79 #[.int .i64 ((c.val : Nat) : Int)] w fun e w' => e = .returned (.int .i64 (((ivL c).val : Nat) : Int)) ∧ w' = w := by
  match c with
  | 0 =>
    go_enter Tryd.func79, Tryd.ntmps79
    go_wp2
    go_ret
    exact ⟨rfl, rfl⟩
  | 1 =>
    go_enter Tryd.func79, Tryd.ntmps79
    go_wp2
    go_ret
    exact ⟨rfl, rfl⟩
  | 2 =>
    go_enter Tryd.func79, Tryd.ntmps79
    go_wp2
    go_ret
    exact ⟨rfl, rfl⟩
  | 3 =>
    go_enter Tryd.func79, Tryd.ntmps79
    go_wp2
    go_ret
    exact ⟨rfl, rfl⟩
set_option maxHeartbeats 2000000 in
theorem neighbour_any (base : Nat) (N : List (List (Fin 4))) (m : List (Fin 4) → Nat) (u : List (Fin 4)) (c : Fin 4) (w : World) (h : Gr w base N m) (hu : u ∈ N) (hb : base ≤ w.heap.size) :
    Calls Tryd.prog 90 #[.pointer (some ⟨m u, 0, none⟩), .int .i64 ((c.val : Nat) : Int)] w fun e w' => ∃ N' m', e = .returned (.pointer (some ⟨m' (stp u c), 0, none⟩)) ∧ More w w' base N N' m m' ∧ ∀ x, x ∈ N' ↔ x ∈ N ∨ x = stp u c := by
  have hcell := h.cell (c := c) hu
  have hc4 : (c.val : Int) < 4 := by omega
  have hc0 : (0 : Int) ≤ (c.val : Int) := by omega
  have hc4n : c.val < 4 := c.isLt
  by_cases hm : stp u c ∈ N
  · have HM := Lib.hid (More.refl h)
    have HMM := Lib.hid hm
    have hp : ptrTo m N u c = .pointer (some ⟨m (stp u c), 0, none⟩) := by unfold ptrTo; rw [if_pos hm]
    rw [hp] at hcell
    clear h hp hm
    generalize c.val = cv at *
    go_enter Tryd.func90, Tryd.ntmps90
    go_wp2
    go_ret
    exact ⟨N, m, rfl, HM.out, fun x => ⟨.inl, fun e => e.elim id (fun e => by rw [e]; exact HMM.out)⟩⟩
  · have HM := Lib.hid (more_add h hu hm hb)
    have hp : ptrTo m N u c = .pointer none := by unfold ptrTo; rw [if_neg hm]
    have hlt := h.lt hu
    have hne : w.heap.size ≠ m u := by omega
    rw [hp] at hcell
    have hss : (w.setCell ⟨m u, c.val, none⟩ (.pointer (some ⟨w.heap.size, 0, none⟩))).heap.size = w.heap.size := by simp [World.setCell]
    have hfr1 : (w.alloc (.cells #[.pointer none, .pointer none, .pointer none, .pointer none] 79)).frozen? ⟨m u, c.val, none⟩ = false := by
      have hb1 : (w.alloc (.cells #[.pointer none, .pointer none, .pointer none, .pointer none] 79)).heap[m u]? = some (.cells (nd4 (ptrTo m N u)) 79 (0, 0)) := (Below.heap_alloc w _ _ hlt).trans (h.blk u hu)
      unfold World.frozen?; rw [hb1]; simp
    have hcell1 := (World.cell?_alloc_lt w (.cells #[.pointer none, .pointer none, .pointer none, .pointer none] 79) ⟨m u, c.val, none⟩ hlt).trans hcell
    have hcell2 : ((w.setCell ⟨m u, c.val, none⟩ (.pointer (some ⟨w.heap.size, 0, none⟩))).alloc (.cells #[.pointer none, .pointer none, .pointer none, .pointer none] 79)).cell? ⟨m u, c.val, none⟩ = some (.pointer (some ⟨w.heap.size, 0, none⟩)) := (World.cell?_alloc_lt _ _ ⟨m u, c.val, none⟩ (by rw [hss]; exact hlt)).trans (World.cell?_setCell_same _ _ _ hcell)
    have hcellF : ∀ o, ((w.setCell ⟨m u, c.val, none⟩ (.pointer (some ⟨w.heap.size, 0, none⟩))).alloc o).cell? ⟨m u, c.val, none⟩ = some (.pointer (some ⟨w.heap.size, 0, none⟩)) := fun o => (World.cell?_alloc_lt _ _ ⟨m u, c.val, none⟩ (by rw [hss]; exact hlt)).trans (World.cell?_setCell_same _ _ _ hcell)
    have HCF := Lib.hid hcellF
    have HE1 : Hid (addW w (m u) c = ((w.setCell ⟨m u, c.val, none⟩ (.pointer (some ⟨w.heap.size, 0, none⟩))).alloc (.cells (([Value.pointer none, .pointer none, .pointer none, .pointer none].set (ivL c).val (.pointer (some ⟨m u, 0, none⟩))).toArray) 79))) := by
      show _ = _
      unfold addW
      rw [World.setCell_alloc_past _ _ _ _ hlt, World.setCell_alloc_at _ _ _ _ _ hss.symm, show (nd4 fun _ => Value.pointer none) = List.toArray [Value.pointer none, .pointer none, .pointer none, .pointer none] from rfl, List.setIfInBounds_toArray]
    have HINV : Hid (∀ W : World, Calls Tryd.prog 79 #[.int .i64 ((c.val : Nat) : Int)] W fun e w' => e = .returned (.int .i64 (((ivL c).val : Nat) : Int)) ∧ w' = W) := fun W => inverse_any c W
    have hi0 : (0 : Int) ≤ ((ivL c).val : Int) := by omega
    have hi4 : ((ivL c).val : Int) < 4 := by omega
    have hi4n : (ivL c).val < 4 := (ivL c).isLt
    have HM2 : Hid (∀ W : World, W.heap = ((w.setCell ⟨m u, c.val, none⟩ (.pointer (some ⟨w.heap.size, 0, none⟩))).alloc (.cells (([Value.pointer none, .pointer none, .pointer none, .pointer none].set (ivL c).val (.pointer (some ⟨m u, 0, none⟩))).toArray) 79)).heap → W.os = w.os → W.tape = w.tape → W.output = w.output → More w W base N (N ++ [stp u c]) m (addM m (stp u c) w.heap.size)) := fun W e e1 e2 e3 => HM.out.like (e.trans (by rw [HE1.out])) e1 e2 e3
    clear h hp hm hcellF HM HE1
    generalize (ivL c).val = iv at *
    generalize c.val = cv at *
    go_enter Tryd.func90, Tryd.ntmps90
    go_wp2_with fail
    go_region_held3 (fun w' => w'.cell? ⟨m u, cv, none⟩ = some (.pointer (some ⟨w.heap.size, 0, none⟩)))
      (first | exact hcell2 | exact HCF.out _ | go_keep)
      (first
        | (go_at_call 79
           refine (HINV.out _).mono ?_
           rintro e V1 ⟨rfl, rfl⟩))
    all_goals
      have hcell9 := HCF.out (.cells ([Value.pointer none, .pointer none, .pointer none, .pointer none].set iv (.pointer (some ⟨m u, 0, none⟩))).toArray 79)
      go_wp2
      go_ret
      exact ⟨N ++ [stp u c], addM m (stp u c) w.heap.size, by rw [addM_new]; try rfl, HM2.out _ rfl rfl rfl rfl, fun x => by rw [List.mem_append, List.mem_singleton]⟩
end

end Go.Proofs.YtlcjgppclclkoaaDoor
