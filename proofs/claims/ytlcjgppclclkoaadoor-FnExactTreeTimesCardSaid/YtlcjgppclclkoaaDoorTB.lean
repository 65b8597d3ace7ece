/-
  Gr.
-/
import Derived.Test.YtlcjgppclclkoaaDoorTA
namespace Go.Proofs.YtlcjgppclclkoaaDoor
set_option maxRecDepth 100000
set_option linter.unusedVariables false
set_option linter.unusedSimpArgs false
set_option linter.unusedSectionVars false

/-! A tree of words in memory: a block of four pointers for each node. -/
section
open Go.RowKit

def nd4 (p : Fin 4 → Value) : Array Value := #[p 0, p 1, p 2, p 3]
theorem nd4_set (p : Fin 4 → Value) (c : Fin 4) (v : Value) : (nd4 p).setIfInBounds c.val v = nd4 (fun d => if d = c then v else p d) := by
  match c with
  | 0 => rfl
  | 1 => rfl
  | 2 => rfl
  | 3 => rfl
theorem nd4_get (p : Fin 4 → Value) (c : Fin 4) : (nd4 p)[c.val]? = some (p c) := by
  match c with
  | 0 => rfl
  | 1 => rfl
  | 2 => rfl
  | 3 => rfl
/-- where a letter leads: the block of the node, or nowhere -/
def ptrTo (m : List (Fin 4) → Nat) (N : List (List (Fin 4))) (u : List (Fin 4)) (c : Fin 4) : Value := if stp u c ∈ N then .pointer (some ⟨m (stp u c), 0, none⟩) else .pointer none
structure Gr (w : World) (base : Nat) (N : List (List (Fin 4))) (m : List (Fin 4) → Nat) : Prop where
  tre : Tre N
  lo : ∀ u ∈ N, base ≤ m u
  blk : ∀ u ∈ N, w.heap[m u]? = some (.cells (nd4 (ptrTo m N u)) 79 (0, 0))
  inj : ∀ u ∈ N, ∀ v ∈ N, m u = m v → u = v
section
variable {w w' : World} {base : Nat} {N : List (List (Fin 4))} {m : List (Fin 4) → Nat} {u : List (Fin 4)} {c : Fin 4}
theorem Gr.lt (h : Gr w base N m) (hu : u ∈ N) : m u < w.heap.size := (Array.getElem?_eq_some_iff.1 (h.blk u hu)).1
theorem Gr.cell (h : Gr w base N m) (hu : u ∈ N) : w.cell? ⟨m u, c.val, none⟩ = some (ptrTo m N u c) := by
  rw [cell_of_row w (m u) c.val _ 79 (0, 0) (h.blk u hu)]
  exact nd4_get _ c
theorem Gr.frozen (h : Gr w base N m) (hu : u ∈ N) (k : Nat) : w.frozen? ⟨m u, k, none⟩ = false := by
  unfold World.frozen?
  rw [h.blk u hu]
  simp
theorem Gr.below (h : Gr w base N m) (hb : Below w.heap.size w w') : Gr w' base N m :=
  ⟨h.tre, h.lo, fun u hu => (hb.block _ (h.lt hu)).trans (h.blk u hu), h.inj⟩
/-- what is done outside the nodes' blocks -/
theorem Gr.same (h : Gr w base N m) (hs : ∀ u ∈ N, w'.heap[m u]? = w.heap[m u]?) : Gr w' base N m :=
  ⟨h.tre, h.lo, fun u hu => (hs u hu).trans (h.blk u hu), h.inj⟩
end
/-- the first node -/
theorem gr_one (w : World) : Gr (w.alloc (.cells (nd4 fun _ => .pointer none) 79)) w.heap.size [[]] (fun _ => w.heap.size) := by
  refine ⟨tre_one, fun u _ => Nat.le_refl _, fun u hu => ?_, fun u hu v hv _ => by rw [List.mem_singleton.1 hu, List.mem_singleton.1 hv]⟩
  rw [heap_alloc_new]
  have : ptrTo (fun _ => w.heap.size) [[]] u = fun _ => .pointer none := by
    funext c
    rw [List.mem_singleton.1 hu]
    unfold ptrTo
    rw [if_neg]
    simp [stp]
  rw [this]
/-- one node more -/
def addM (m : List (Fin 4) → Nat) (v : List (Fin 4)) (b : Nat) (x : List (Fin 4)) : Nat := if x = v then b else m x
theorem addM_new (m : List (Fin 4) → Nat) (v : List (Fin 4)) (b : Nat) : addM m v b v = b := if_pos rfl
theorem addM_old {m : List (Fin 4) → Nat} {v x : List (Fin 4)} {b : Nat} (h : x ≠ v) : addM m v b x = m x := if_neg h
/-- the world behind a new node -/
def addW (w : World) (g : Nat) (c : Fin 4) : World :=
  ((w.alloc (.cells (nd4 fun _ => .pointer none) 79)).setCell ⟨g, c.val, none⟩ (.pointer (some ⟨w.heap.size, 0, none⟩))).setCell ⟨w.heap.size, (ivL c).val, none⟩ (.pointer (some ⟨g, 0, none⟩))
theorem Gr.add {w : World} {base : Nat} {N : List (List (Fin 4))} {m : List (Fin 4) → Nat} {u : List (Fin 4)} {c : Fin 4} (h : Gr w base N m) (hu : u ∈ N) (hn : stp u c ∉ N) (hb : base ≤ w.heap.size) :
    Gr (addW w (m u) c) base (N ++ [stp u c]) (addM m (stp u c) w.heap.size) := by
  have hlt := fun x hx => h.lt (u := x) hx
  have T := h.tre
  have hun : u ≠ stp u c := fun e => hn (by rw [← e]; exact hu)
  have hold : ∀ x ∈ N, x ≠ stp u c := fun x hx e => hn (by rw [← e]; exact hx)
  have hA : (w.alloc (.cells (nd4 fun _ => .pointer none) 79)).heap[w.heap.size]? = some (.cells (nd4 fun _ => .pointer none) 79 (0, 0)) := heap_alloc_new w _
  have hU : (w.alloc (.cells (nd4 fun _ => .pointer none) 79)).heap[m u]? = some (.cells (nd4 (ptrTo m N u)) 79 (0, 0)) := (Below.heap_alloc w _ _ (hlt u hu)).trans (h.blk u hu)
  have hne : w.heap.size ≠ m u := by have := hlt u hu; omega
  have keep : ∀ x d, (¬ (x = u ∧ d = c)) → x ∈ N → ptrTo (addM m (stp u c) w.heap.size) (N ++ [stp u c]) x d = ptrTo m N x d := fun x d hne' hx => by
    unfold ptrTo
    by_cases hm : stp x d ∈ N
    · rw [if_pos hm, if_pos (List.mem_append_left _ hm), addM_old (hold _ hm)]
    · rw [if_neg hm, if_neg (fun e => hm ((T.old_nb hu hx hn hne').1 e))]
  refine ⟨T.add hu hn, fun x hx => ?_, fun x hx => ?_, fun x hx y hy e => ?_⟩
  · rcases List.mem_append.1 hx with h' | h'
    · rw [addM_old (hold x h')]; exact h.lo x h'
    · rw [List.mem_singleton.1 h', addM_new]; exact hb
  · unfold addW
    rcases List.mem_append.1 hx with h' | h'
    · rw [addM_old (hold x h')]
      by_cases hxu : x = u
      · subst hxu
        rw [Below.heap_setCell _ _ _ _ (fun e => hne e.symm), heap_setCell_same _ (m x) c.val _ 79 _ hU, nd4_set]
        congr 2
        congr 1
        funext d
        by_cases hd : d = c
        · subst hd
          rw [if_pos rfl]
          unfold ptrTo
          rw [if_pos (by simp), addM_new]
        · rw [if_neg hd, keep x d (fun hc => hd hc.2) h']
      · have hxm : m x ≠ m u := fun e => hxu (h.inj x h' u hu e)
        rw [Below.heap_setCell _ _ _ _ (fun e => by have := hlt x h'; have e' : m x = w.heap.size := e; omega), Below.heap_setCell _ _ _ _ (fun e => hxm e), Below.heap_alloc w _ _ (hlt x h'), h.blk x h']
        congr 2
        congr 1
        funext d
        rw [keep x d (fun hc => hxu hc.1) h']
    · rw [List.mem_singleton.1 h', addM_new]
      have hB : ((w.alloc (.cells (nd4 fun _ => .pointer none) 79)).setCell ⟨m u, c.val, none⟩ (.pointer (some ⟨w.heap.size, 0, none⟩))).heap[w.heap.size]? = some (.cells (nd4 fun _ => .pointer none) 79 (0, 0)) := (Below.heap_setCell _ _ _ _ (fun e => hne e)).trans hA
      rw [heap_setCell_same _ w.heap.size (ivL c).val _ 79 _ hB, nd4_set]
      congr 2
      congr 1
      funext d
      unfold ptrTo
      by_cases hd : d = ivL c
      · subst hd
        rw [if_pos rfl, if_pos ((T.new_nb hu hn _).2 rfl), stp_back (T.rd u hu), addM_old hun]
      · rw [if_neg hd, if_neg (fun e => hd ((T.new_nb hu hn d).1 e))]
  · rcases List.mem_append.1 hx with h' | h' <;> rcases List.mem_append.1 hy with h2 | h2
    · rw [addM_old (hold x h'), addM_old (hold y h2)] at e
      exact h.inj x h' y h2 e
    · rw [addM_old (hold x h'), List.mem_singleton.1 h2, addM_new] at e
      have := hlt x h'; omega
    · rw [addM_old (hold y h2), List.mem_singleton.1 h', addM_new] at e
      have := hlt y h2; omega
    · rw [List.mem_singleton.1 h', List.mem_singleton.1 h2]
theorem addW_below {w : World} {B g : Nat} {c : Fin 4} (hB : B ≤ w.heap.size) (hg : B ≤ g) : Below B w (addW w g c) :=
  (((Below.refl B w).alloc hB _).setCell (p := ⟨g, c.val, none⟩) hg _).setCell (p := ⟨w.heap.size, (ivL c).val, none⟩) hB _
end

end Go.Proofs.YtlcjgppclclkoaaDoor
