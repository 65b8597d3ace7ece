/-
  The order in which the nodes of a graph are met from 0: letter by letter, node by node.
-/
import Derived.Test.YthliifgjolgmgaaDoorLb
namespace Go.Proofs.YthliifgjolgmgaaDoor
set_option maxRecDepth 100000
open Go.RowKit Go.Lib

/-- a node, the place of the node from where it is met, the letter -/
abbrev Qt := Nat × Nat × Int
def ndQ (Q : List Qt) : List Nat := Q.map (·.1)
def stepQ (i c : Nat) (x : Option Nat) (Q : List Qt) : List Qt :=
  match x with
  | none => Q
  | some u => if u ∈ ndQ Q then Q else Q ++ [(u, i, (c : Int))]
def scanQ (nx : Nat → Nat → Option Nat) (i v k : Nat) (Q : List Qt) : List Qt := (List.range k).foldl (fun Q c => stepQ i c (nx c v) Q) Q
def bfsQ (nx : Nat → Nat → Option Nat) : Nat → List Qt
  | 0 => [(0, 0, -1)]
  | i + 1 => match (bfsQ nx i)[i]? with
    | none => bfsQ nx i
    | some t => scanQ nx i t.1 4 (bfsQ nx i)
theorem scanQ_zero (nx : Nat → Nat → Option Nat) (i v : Nat) (Q : List Qt) : scanQ nx i v 0 Q = Q := rfl
theorem scanQ_succ (nx : Nat → Nat → Option Nat) (i v k : Nat) (Q : List Qt) : scanQ nx i v (k + 1) Q = stepQ i k (nx k v) (scanQ nx i v k Q) := by
  unfold scanQ; rw [List.range_succ, List.foldl_append]; rfl
theorem ndQ_app (Q : List Qt) (t : Qt) : ndQ (Q ++ [t]) = ndQ Q ++ [t.1] := by simp [ndQ]
theorem ndQ_len (Q : List Qt) : (ndQ Q).length = Q.length := by simp [ndQ]
/-- no node twice, and no number too great -/
def OkQ (n : Nat) (Q : List Qt) : Prop := (ndQ Q).Nodup ∧ ∀ v ∈ ndQ Q, v < n
theorem OkQ.len {n : Nat} {Q : List Qt} (h : OkQ n Q) : Q.length ≤ n := by
  rw [← ndQ_len]
  have := h.1.length_le_of_subset (l₂ := List.range n) (fun x hx => List.mem_range.2 (h.2 x hx))
  rwa [List.length_range] at this
theorem stepQ_pre (i c : Nat) (x : Option Nat) (Q : List Qt) : Q <+: stepQ i c x Q := by
  unfold stepQ
  split
  · exact List.prefix_refl _
  · split
    · exact List.prefix_refl _
    · exact List.prefix_append _ _
theorem scanQ_pre (nx : Nat → Nat → Option Nat) (i v : Nat) (Q : List Qt) : ∀ k, Q <+: scanQ nx i v k Q
  | 0 => List.prefix_refl _
  | k + 1 => by rw [scanQ_succ]; exact (scanQ_pre nx i v Q k).trans (stepQ_pre _ _ _ _)
theorem stepQ_ok {n i c : Nat} {x : Option Nat} {Q : List Qt} (h : OkQ n Q) (hx : ∀ u, x = some u → u < n) : OkQ n (stepQ i c x Q) := by
  unfold stepQ
  split
  · exact h
  · rename_i u
    split
    · exact h
    · rename_i hn
      refine ⟨?_, fun v hv => ?_⟩
      · rw [ndQ_app, List.nodup_append]
        exact ⟨h.1, by simp, fun a ha b hb e => by
          rw [List.mem_singleton.1 hb] at e
          have e : a = u := e
          rw [e] at ha
          exact hn ha⟩
      · rw [ndQ_app] at hv
        rcases List.mem_append.1 hv with hv | hv
        · exact h.2 v hv
        · rw [List.mem_singleton.1 hv]; exact hx u rfl
theorem scanQ_ok {n i v : Nat} {nx : Nat → Nat → Option Nat} {Q : List Qt} (h : OkQ n Q) (hx : ∀ c u, nx c v = some u → u < n) : ∀ k, OkQ n (scanQ nx i v k Q)
  | 0 => h
  | k + 1 => by rw [scanQ_succ]; exact stepQ_ok (scanQ_ok h hx k) (hx k)
theorem bfsQ_ok {n : Nat} {nx : Nat → Nat → Option Nat} (h0 : 0 < n) (hx : ∀ c v u, nx c v = some u → u < n) : ∀ i, OkQ n (bfsQ nx i)
  | 0 => ⟨by simp [ndQ, bfsQ], fun v hv => by simp [ndQ, bfsQ] at hv; omega⟩
  | i + 1 => by
    unfold bfsQ
    split
    · exact bfsQ_ok h0 hx i
    · exact scanQ_ok (bfsQ_ok h0 hx i) (fun c u => hx c _ u) 4
theorem bfsQ_pre {nx : Nat → Nat → Option Nat} : ∀ i, bfsQ nx i <+: bfsQ nx (i + 1) := fun i => by
  show bfsQ nx i <+: (match (bfsQ nx i)[i]? with
    | none => bfsQ nx i
    | some t => scanQ nx i t.1 4 (bfsQ nx i))
  split
  · exact List.prefix_refl _
  · exact scanQ_pre _ _ _ _ _
theorem bfsQ_at {nx : Nat → Nat → Option Nat} {i : Nat} {t : Qt} (h : (bfsQ nx i)[i]? = some t) : bfsQ nx (i + 1) = scanQ nx i t.1 4 (bfsQ nx i) := by
  show (match (bfsQ nx i)[i]? with
    | none => bfsQ nx i
    | some t => scanQ nx i t.1 4 (bfsQ nx i)) = _
  rw [h]
/-- all is met: nothing comes any more -/
theorem bfsQ_end {nx : Nat → Nat → Option Nat} {i : Nat} (h : (bfsQ nx i).length ≤ i) : ∀ j, bfsQ nx (i + j) = bfsQ nx i
  | 0 => rfl
  | j + 1 => by
    have e := bfsQ_end h j
    show (match (bfsQ nx (i + j))[i + j]? with
      | none => bfsQ nx (i + j)
      | some t => scanQ nx (i + j) t.1 4 (bfsQ nx (i + j))) = _
    rw [e, List.getElem?_eq_none (by omega)]
/-- the order of a graph of n nodes -/
def ordQ (nx : Nat → Nat → Option Nat) (n : Nat) : List Qt := bfsQ nx n
theorem ordQ_end {nx : Nat → Nat → Option Nat} {n i : Nat} (hi : i ≤ n) (h : (bfsQ nx i).length ≤ i) : ordQ nx n = bfsQ nx i := by
  obtain ⟨j, rfl⟩ : ∃ j, n = i + j := ⟨n - i, by omega⟩
  exact bfsQ_end h j
/-- where the letters A, B, a, b lead in the graph told by two lists -/
def fwK (zs : List Int) (v : Nat) : Option Nat := match zs[v]? with
  | some (.ofNat u) => some u
  | _ => none
theorem fwK_enc {zs : List Int} {n v : Nat} {z : Int} (hl : Leads zs n) (hz : zs[v]? = some z) : enc (fwK zs v) = z := by
  have hr := hl.2.1 z (List.mem_of_getElem? hz)
  unfold fwK
  rw [hz]
  cases z with
  | ofNat u => rfl
  | negSucc u =>
    have : u = 0 := by
      have := hr.1
      omega
    subst this; rfl
def nxG (zs ys : List Int) (n : Nat) (c v : Nat) : Option Nat := match c with
  | 0 => bkK zs n v
  | 1 => bkK ys n v
  | 2 => fwK zs v
  | _ => fwK ys v
theorem fwK_is {zs : List Int} {u v : Nat} : fwK zs v = some u ↔ zs[v]? = some (u : Int) := by
  unfold fwK
  split
  · rename_i x h
    rw [h]
    constructor
    · intro e; injection e with e; rw [e]; rfl
    · intro e
      injection e with e
      have e : Int.ofNat x = Int.ofNat u := e
      injection e with e
      rw [e]
  · rename_i h
    exact ⟨(fun e => by cases e), fun e => absurd e (h u)⟩
theorem nxG_lt {zs ys : List Int} {n : Nat} (hz : Leads zs n) (hy : Leads ys n) (c v u : Nat) (h : nxG zs ys n c v = some u) : u < n := by
  have hb : ∀ {xs : List Int}, Leads xs n → bkK xs n v = some u → u < n := fun hx h => by
    rw [← hx.1]; exact (List.getElem?_eq_some_iff.1 (bkK_is h)).1
  have hf : ∀ {xs : List Int}, Leads xs n → fwK xs v = some u → u < n := fun hx h => by
    have := hx.2.1 _ (List.mem_of_getElem? (fwK_is.1 h)); omega
  unfold nxG at h
  split at h
  · exact hb hz h
  · exact hb hy h
  · exact hf hz h
  · exact hf hy h
end Go.Proofs.YthliifgjolgmgaaDoor
