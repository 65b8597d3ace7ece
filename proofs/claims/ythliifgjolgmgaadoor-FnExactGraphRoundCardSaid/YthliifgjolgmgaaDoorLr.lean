/-
  spec.l5Order: the nodes that are met, in order, with the place and the letter from where each one is met.
-/
import Derived.Test.YthliifgjolgmgaaDoorLp
import Derived.Test.YthliifgjolgmgaaDoorBq
import Derived.Deep.AppendLies
namespace Go.Proofs.YthliifgjolgmgaaDoor
set_option maxRecDepth 100000
open Go.RowKit Go.Lib

/-- three lists that grow, and a row of yes and no, each in memory of its own -/
structure W3 (V wr : World) (g1 c1 : Nat) (L1 : List Int) (g2 c2 : Nat) (L2 : List Int) (g3 c3 : Nat) (L3 : List Int) (gm n : Nat) (bs : List Bool) : Prop where
  r1 : wr.ownsRow V.heap.size 3 1 (.slice (some ⟨g1, 0, none⟩) L1.length c1) L1.length (ivs L1)
  r2 : wr.ownsRow V.heap.size 3 1 (.slice (some ⟨g2, 0, none⟩) L2.length c2) L2.length (ivs L2)
  r3 : wr.ownsRow V.heap.size 3 1 (.slice (some ⟨g3, 0, none⟩) L3.length c3) L3.length (ivs L3)
  rm : wr.ownsRow V.heap.size 4 1 (.slice (some ⟨gm, 0, none⟩) n n) n (bvs bs)
  n12 : g1 ≠ g2
  n13 : g1 ≠ g3
  n23 : g2 ≠ g3
  bel : Below V.heap.size V wr
section
variable {V wr : World} {g1 c1 : Nat} {L1 : List Int} {g2 c2 : Nat} {L2 : List Int} {g3 c3 : Nat} {L3 : List Int} {gm n : Nat} {bs : List Bool}
theorem W3.rot (h : W3 V wr g1 c1 L1 g2 c2 L2 g3 c3 L3 gm n bs) : W3 V wr g2 c2 L2 g3 c3 L3 g1 c1 L1 gm n bs := ⟨h.r2, h.r3, h.r1, h.rm, h.n23, h.n12.symm, h.n13.symm, h.bel⟩
theorem own_blk5 {w : World} {base size n g c : Nat} {e : TypeId} {xs : List Value} (h : w.ownsRow base e size (.slice (some ⟨g, 0, none⟩) n c) n xs) : ∃ cur, Blk w g e cur := by
  rcases h.2 with ⟨e1, _⟩ | ⟨g', cap, cur, e1, _, e2, _⟩
  · cases e1
  · injection e1 with e1 _ _
    injection e1 with e1
    injection e1 with e1
    subst e1
    exact ⟨cur, e2⟩
theorem W3.nm1 (h : W3 V wr g1 c1 L1 g2 c2 L2 g3 c3 L3 gm n bs) : g1 ≠ gm := by
  obtain ⟨c, hc⟩ := own_blk5 h.r1
  obtain ⟨c', hc'⟩ := own_blk5 h.rm
  exact hc.ne_ hc' (by decide)
/-- a number more behind the first list -/
theorem W3.app (h : W3 V wr g1 c1 L1 g2 c2 L2 g3 c3 L3 gm n bs) (o : Obj) {x : Int} {g7 c7 : Nat} {w7 : World} (hown : w7.ownsRow V.heap.size 3 1 (.slice (some ⟨g7, 0, none⟩) (L1.length + 1) c7) (L1.length + 1) (ivs L1 ++ [.int .i64 x]))
    (hg : (wr.alloc o).grownBy w7 (Value.slice (some ⟨g1, 0, none⟩) L1.length c1).ownBlock) (hat : (Value.slice (some ⟨g1, 0, none⟩) L1.length c1).ownBlock = some g7 ∨ g7 = (wr.alloc o).heap.size) :
    W3 V w7 g7 c7 (L1 ++ [x]) g2 c2 L2 g3 c3 L3 gm n bs := by
  have hz : (wr.alloc o).heap.size = wr.heap.size + 1 := by simp
  have l2 := (h.r2.lt g2 rfl)
  have l3 := (h.r3.lt g3 rfl)
  have hg7 : g7 = g1 ∨ g7 = wr.heap.size + 1 := by
    rcases hat with e | e
    · left
      have e : some g1 = some g7 := e
      injection e with e; exact e.symm
    · right; rw [← hz]; exact e
  have l1 := (h.r1.lt g1 rfl)
  have hnm := h.nm1
  refine ⟨by rw [List.length_append, List.length_singleton]; simpa [ivs] using hown, (h.r2.alloc o).kept hg (.inr (fun e => h.n12 (by have e : some g2 = some g1 := e; injection e with e; exact e.symm))), (h.r3.alloc o).kept hg (.inr (fun e => h.n13 (by have e : some g3 = some g1 := e; injection e with e; exact e.symm))),
    (h.rm.alloc o).kept hg (.inr (fun e => hnm (by have e : some gm = some g1 := e; injection e with e; exact e.symm))), ?_, ?_, h.n23, (h.bel.alloc h.bel.size o).grown hg (by rw [hz]; have := h.bel.size; omega) (fun k e => by have e : some g1 = some k := e; injection e with e; rw [← e]; exact l1.1)⟩
  · rcases hg7 with e | e
    · rw [e]; exact h.n12
    · omega
  · rcases hg7 with e | e
    · rw [e]; exact h.n13
    · omega
/-- a yes more -/
theorem W3.mark (h : W3 V wr g1 c1 L1 g2 c2 L2 g3 c3 L3 gm n bs) {v : Nat} (_hv : v < n) : W3 V (wr.setCell ⟨gm, v, none⟩ (.bool true)) g1 c1 L1 g2 c2 L2 g3 c3 L3 gm n (bs.set v true) := by
  have hst := (h.rm.stored v (.bool true)).1
  rw [bvs_set] at hst
  obtain ⟨c, hc⟩ := own_blk5 h.rm
  exact ⟨ownsRow_setCell_other h.r1 (a := ⟨gm, v, none⟩) (own_blk_ne h.r1 hc (by decide)) _, ownsRow_setCell_other h.r2 (a := ⟨gm, v, none⟩) (own_blk_ne h.r2 hc (by decide)) _, ownsRow_setCell_other h.r3 (a := ⟨gm, v, none⟩) (own_blk_ne h.r3 hc (by decide)) _, hst, h.n12, h.n13, h.n23,
    h.bel.setCell (p := ⟨gm, v, none⟩) (h.rm.lt gm rfl).1 _⟩
theorem W3.drewN (h : W3 V wr g1 c1 L1 g2 c2 L2 g3 c3 L3 gm n bs) (k : Nat) : W3 V (wr.drewN k) g1 c1 L1 g2 c2 L2 g3 c3 L3 gm n bs := ⟨h.r1, h.r2, h.r3, h.rm, h.n12, h.n13, h.n23, below_drewN h.bel k⟩
end
/-- the yes row says which nodes are met -/
def MetOk (bs : List Bool) (n : Nat) (Q : List Qt) : Prop := bs.length = n ∧ ∀ v : Nat, bs[v]? = some true ↔ v < n ∧ v ∈ ndQ Q
theorem met_at {bs : List Bool} {n : Nat} {Q : List Qt} (h : MetOk bs n Q) {v : Nat} (hv : v < n) : bs[v]? = some (decide (v ∈ ndQ Q)) := by
  have hl := h.1
  have hg : bs[v]? = some bs[v] := List.getElem?_eq_getElem (by omega)
  rw [hg]
  congr 1
  rw [Bool.eq_iff_iff, decide_eq_true_eq]
  constructor
  · intro e; exact ((h.2 v).1 (by rw [hg, e])).2
  · intro e
    have := (h.2 v).2 ⟨hv, e⟩
    rw [hg] at this
    injection this
theorem met_new {bs : List Bool} {n : Nat} {Q : List Qt} (h : MetOk bs n Q) {v i : Nat} {c : Int} (hv : v < n) : MetOk (bs.set v true) n (Q ++ [(v, i, c)]) := by
  have hl := h.1
  refine ⟨by rw [List.length_set]; exact hl, fun u => ?_⟩
  rw [ndQ_app, List.mem_append, List.mem_singleton]
  by_cases e : u = v
  · subst e
    rw [List.getElem?_set_self (by omega)]
    exact ⟨fun _ => ⟨hv, .inr rfl⟩, fun _ => rfl⟩
  · rw [List.getElem?_set_ne (fun e' => e e'.symm), h.2 u]
    exact ⟨fun ⟨a, b⟩ => ⟨a, .inl b⟩, fun ⟨a, b⟩ => ⟨a, b.resolve_right e⟩⟩
theorem met_one {n : Nat} (h0 : 0 < n) : MetOk ((List.replicate n false).set 0 true) n [(0, 0, -1)] := by
  refine ⟨by simp, fun u => ?_⟩
  by_cases e : u = 0
  · subst e
    rw [List.getElem?_set_self (by simp; exact h0)]
    simp [ndQ, h0]
  · rw [List.getElem?_set_ne (fun e' => e e'.symm), List.getElem?_replicate]
    simp [ndQ, e]
def ndI (Q : List Qt) : List Int := Q.map (fun t => (t.1 : Int))
def frI (Q : List Qt) : List Int := Q.map (fun t => (t.2.1 : Int))
def leI (Q : List Qt) : List Int := Q.map (fun t => t.2.2)
theorem ndI_len (Q : List Qt) : (ndI Q).length = Q.length := by simp [ndI]
theorem frI_len (Q : List Qt) : (frI Q).length = Q.length := by simp [frI]
theorem leI_len (Q : List Qt) : (leI Q).length = Q.length := by simp [leI]
end Go.Proofs.YthliifgjolgmgaaDoor
