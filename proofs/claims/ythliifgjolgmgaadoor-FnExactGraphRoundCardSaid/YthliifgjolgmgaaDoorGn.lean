/-
  The drawing of two lists: a graph is as told just if, drawn, folded and numbered, it is the same again. Mathematics: no program.
-/
import Derived.Test.YthliifgjolgmgaaDoorGm
namespace Go.Proofs.YthliifgjolgmgaaDoor
set_option maxRecDepth 100000
set_option linter.unusedVariables false
open Go.RowKit

/-- a list of as many numbers as nodes, each one a node or -1 -/
def InR (zs : List Int) (n : Nat) : Prop := zs.length = n ∧ ∀ z ∈ zs, -1 ≤ z ∧ z < (n : Int)
theorem Leads.inR {zs : List Int} {n : Nat} (h : Leads zs n) : InR zs n := ⟨h.1, h.2.1⟩
def drE (c : Nat) (zs : List Int) (i : Nat) : List Sk := match fwK zs i with
  | some t => [(i, c, t), (t, inL c, i)]
  | none => []
def drL (c : Nat) (zs : List Int) (k : Nat) : List Sk := (List.range k).flatMap (drE c zs)
def drG (zs ys : List Int) (n : Nat) : List Sk := drL 2 zs n ++ drL 3 ys n
theorem drL_succ (c : Nat) (zs : List Int) (k : Nat) : drL c zs (k + 1) = drL c zs k ++ drE c zs k := by
  unfold drL; rw [List.range_succ, List.flatMap_append]; simp
theorem drE_none {c : Nat} {zs : List Int} {i : Nat} {z : Int} (h : zs[i]? = some z) (hz : z < 0) : drE c zs i = [] := by
  unfold drE
  cases hf : fwK zs i with
  | none => rfl
  | some t => have := fwK_is.1 hf; rw [h] at this; injection this with this; omega
theorem drE_some {c : Nat} {zs : List Int} {i t : Nat} (h : zs[i]? = some (t : Int)) : drE c zs i = [(i, c, t), (t, inL c, i)] := by
  unfold drE; rw [fwK_is.2 h]
theorem drL_mem {c : Nat} {zs : List Int} {k : Nat} {e : Sk} : e ∈ drL c zs k ↔ ∃ i t : Nat, i < k ∧ zs[i]? = some (t : Int) ∧ (e = (i, c, t) ∨ e = (t, inL c, i)) := by
  unfold drL
  rw [List.mem_flatMap]
  constructor
  · rintro ⟨i, hi, he⟩
    unfold drE at he
    cases hf : fwK zs i with
    | none => rw [hf] at he; cases he
    | some t =>
      rw [hf] at he
      refine ⟨i, t, List.mem_range.1 hi, fwK_is.1 hf, ?_⟩
      simpa using he
  · rintro ⟨i, t, hi, ht, he⟩
    refine ⟨i, List.mem_range.2 hi, ?_⟩
    rw [drE_some ht]
    simpa using he
theorem drL_len (c : Nat) (zs : List Int) : ∀ k, (drL c zs k).length ≤ 2 * k
  | 0 => Nat.le_refl _
  | k + 1 => by
    rw [drL_succ, List.length_append]
    have := drL_len c zs k
    have : (drE c zs k).length ≤ 2 := by unfold drE; split <;> simp
    omega
theorem drL_drw {c : Nat} {zs : List Int} {n k : Nat} (h : InR zs n) (hc : c < 4) (hk : k ≤ n) : Drw (drL c zs k) n := by
  refine ⟨fun e he => ?_, fun f l t he => ?_⟩
  · obtain ⟨i, t, hi, ht, he⟩ := drL_mem.1 he
    have := (h.2 _ (List.mem_of_getElem? ht)).2
    rcases he with rfl | rfl
    · exact ⟨by show i < n; omega, hc, by show t < n; omega⟩
    · exact ⟨by show t < n; omega, inL_lt c, by show i < n; omega⟩
  · obtain ⟨i, t', hi, ht, he⟩ := drL_mem.1 he
    refine drL_mem.2 ⟨i, t', hi, ht, ?_⟩
    rcases he with e | e
    · injection e with e1 e2; injection e2 with e2 e3; subst e1 e2 e3; exact .inr rfl
    · injection e with e1 e2; injection e2 with e2 e3; subst e1 e2 e3
      left; rw [inL_inL hc]
theorem Drw.app {S T : List Sk} {n : Nat} (h : Drw S n) (h' : Drw T n) : Drw (S ++ T) n := by
  refine ⟨fun e he => ?_, fun f l t he => ?_⟩
  · rcases List.mem_append.1 he with he | he
    · exact h.nd e he
    · exact h'.nd e he
  · rcases List.mem_append.1 he with he | he
    · exact List.mem_append_left _ (h.sym _ _ _ he)
    · exact List.mem_append_right _ (h'.sym _ _ _ he)
theorem drG_drw {zs ys : List Int} {n : Nat} (h : InR zs n) (h' : InR ys n) : Drw (drG zs ys n) n := (drL_drw h (by omega) (Nat.le_refl _)).app (drL_drw h' (by omega) (Nat.le_refl _))
/-- an arrow of the drawing is one of the graph -/
theorem drG_mem {zs ys : List Int} {n : Nat} (h : Leads zs n) (h' : Leads ys n) {c v t : Nat} : (v, c, t) ∈ drG zs ys n ↔ c < 4 ∧ nxG zs ys n c v = some t := by
  have hi : ∀ {xs : List Int} {i : Nat} {z : Int}, Leads xs n → xs[i]? = some z → i < n := fun hx hz => by
    rw [← hx.1]; exact (List.getElem?_eq_some_iff.1 hz).1
  unfold drG
  rw [List.mem_append, drL_mem, drL_mem]
  constructor
  · rintro (⟨i, t', _, ht, e⟩ | ⟨i, t', _, ht, e⟩)
    · rcases e with e | e
      · injection e with e1 e2; injection e2 with e2 e3; subst e1 e2 e3
        exact ⟨by omega, fwK_is.2 ht⟩
      · injection e with e1 e2; injection e2 with e2 e3; subst e1 e2 e3
        exact ⟨by decide, bkK_some h ht⟩
    · rcases e with e | e
      · injection e with e1 e2; injection e2 with e2 e3; subst e1 e2 e3
        exact ⟨by omega, fwK_is.2 ht⟩
      · injection e with e1 e2; injection e2 with e2 e3; subst e1 e2 e3
        exact ⟨by decide, bkK_some h' ht⟩
  · rintro ⟨hc, hx⟩
    match c, hc with
    | 0, _ => have hx : bkK zs n v = some t := hx; exact .inl ⟨t, v, hi h (bkK_is hx), bkK_is hx, .inr rfl⟩
    | 1, _ => have hx : bkK ys n v = some t := hx; exact .inr ⟨t, v, hi h' (bkK_is hx), bkK_is hx, .inr rfl⟩
    | 2, _ => have hx : fwK zs v = some t := hx; exact .inl ⟨v, t, hi h (fwK_is.1 hx), fwK_is.1 hx, .inl rfl⟩
    | 3, _ => have hx : fwK ys v = some t := hx; exact .inr ⟨v, t, hi h' (fwK_is.1 hx), fwK_is.1 hx, .inl rfl⟩
theorem drG_nocl {zs ys : List Int} {n : Nat} (h : Leads zs n) (h' : Leads ys n) : NoCl (drG zs ys n) := fun f l t t' a b => by
  have a := ((drG_mem h h').1 a).2
  rw [((drG_mem h h').1 b).2] at a
  exact (Option.some.inj a).symm
theorem drG_leD {zs ys : List Int} {n : Nat} (h : Leads zs n) (h' : Leads ys n) {c v : Nat} (hc : c < 4) : leD (drG zs ys n) c v = nxG zs ys n c v := by
  have hn := drG_nocl h h'
  cases hx : nxG zs ys n c v with
  | some t => exact (leD_iff hn).2 ((drG_mem h h').2 ⟨hc, hx⟩)
  | none =>
    cases hl : leD (drG zs ys n) c v with
    | none => rfl
    | some t => have := ((drG_mem h h').1 (leD_mem hl)).2; rw [hx] at this; cases this
section
variable {S : List Sk} {n : Nat}
theorem leD_lt (h : Drw S n) (c v u : Nat) (hu : leD S c v = some u) : u < n := (h.nd _ (leD_mem hu)).2.2
theorem leD_sym (h : Drw S n) (hn : NoCl S) (c v u : Nat) (hu : leD S c v = some u) : leD S (inL c) u = some v := (leD_iff hn).2 (h.sym _ _ _ (leD_mem hu))
end
/-- what the program tells of a folded drawing -/
def toldA (S : List Sk) (n c : Nat) : List Int := toN (leD S) (metQ (leD S) n) c
theorem cast_range (N : Nat) (Q : List Qt) (h : ndQ Q = List.range N) : Q.map (fun t => (t.1 : Int)) = (List.range N).map (fun (i : Nat) => (i : Int)) := by
  rw [← h]; unfold ndQ; rw [List.map_map]; rfl
theorem uncast_range (N : Nat) (Q : List Qt) (h : Q.map (fun t => (t.1 : Int)) = (List.range N).map (fun (i : Nat) => (i : Int))) : ndQ Q = List.range N := by
  have := congrArg (List.map Int.toNat) h
  rw [List.map_map, List.map_map] at this
  have e1 : (Int.toNat ∘ fun (t : Qt) => (t.1 : Int)) = fun t => t.1 := by funext t; simp
  have e2 : (Int.toNat ∘ fun (i : Nat) => (i : Int)) = id := by funext t; simp
  rw [e1, e2, List.map_id] at this
  exact this
/-- a numbered graph that is told: as told, just if it has at most 40 nodes -/
theorem told_ord {nx : Nat → Nat → Option Nat} {n : Nat} (h0 : 0 < n) (hx : ∀ c v u, nx c v = some u → u < n) (hs : ∀ c v u, c < 4 → nx c v = some u → nx (inL c) u = some v) :
    Leads (toN nx (metQ nx n) 2) (metQ nx n).length ∧ Leads (toN nx (metQ nx n) 3) (metQ nx n).length ∧
    (ordQ (nxG (toN nx (metQ nx n) 2) (toN nx (metQ nx n) 3) (metQ nx n).length) (metQ nx n).length).map (fun t => (t.1 : Int)) = (List.range (metQ nx n).length).map (fun (i : Nat) => (i : Int)) :=
  ⟨toN_leads h0 hx (by omega) (fun v u h => hs 2 v u (by omega) h), toN_leads h0 hx (by omega) (fun v u h => hs 3 v u (by omega) h), cast_range _ _ (num_ord h0 hx hs)⟩
/-- a graph as told: what is drawn is folded, and numbered as it is -/
theorem told_back {zs ys : List Int} {n : Nat} (h0 : 0 < n) (h : Leads zs n) (h' : Leads ys n) (ho : ndQ (ordQ (nxG zs ys n) n) = List.range n) {S : List Sk} (hf : FoldS (drG zs ys n) S) :
    S = drG zs ys n ∧ metQ (leD S) n = List.range n ∧ ∀ c, c < 4 → toldA S n c = (List.range n).map (fun v => enc (nxG zs ys n c v)) := by
  have hS := hf.same (drG_nocl h h')
  subst hS
  have hM : metQ (leD (drG zs ys n)) n = List.range n := by
    unfold metQ ordQ
    rw [bfs_ext (nx := nxG zs ys n) (N := n) h0 (nxG_lt h h') (fun c v hc hv => drG_leD h h' hc)]
    exact ho
  refine ⟨rfl, hM, fun c hc => ?_⟩
  unfold toldA toN
  rw [hM]
  apply List.map_congr_left
  intro v hv
  rw [drG_leD h h' hc]
  cases hu : nxG zs ys n c v with
  | none => rfl
  | some u =>
    have hul := nxG_lt h h' c v u hu
    show ((ixQ (List.range n) u : Nat) : Int) = (u : Int)
    rw [ixQ_of List.nodup_range (List.getElem?_range hul)]
theorem fw_list {zs : List Int} {n : Nat} (h : Leads zs n) : (List.range n).map (fun v => enc (fwK zs v)) = zs := by
  apply List.ext_getElem?
  intro j
  rcases Nat.lt_or_ge j n with hj | hj
  · rw [List.getElem?_map, List.getElem?_range hj]
    obtain ⟨z, hz⟩ : ∃ z, zs[j]? = some z := ⟨_, List.getElem?_eq_getElem (by rw [h.1]; exact hj)⟩
    rw [hz]
    exact congrArg some (fwK_enc h hz)
  · rw [List.getElem?_eq_none (by simp; exact hj), List.getElem?_eq_none (by rw [h.1]; exact hj)]
theorem told_iff {zs ys : List Int} {n : Nat} (h0 : 0 < n) (h : InR zs n) (h' : InR ys n) {S : List Sk} (hf : FoldS (drG zs ys n) S) (hn : NoCl S) :
    ((metQ (leD S) n).length = n ∧ toldA S n 2 = zs ∧ toldA S n 3 = ys) ↔ (Leads zs n ∧ Leads ys n ∧ (ordQ (nxG zs ys n) n).map (fun t => (t.1 : Int)) = (List.range n).map (fun (i : Nat) => (i : Int))) := by
  have hd := hf.drw (drG_drw h h')
  constructor
  · rintro ⟨e1, e2, e3⟩
    have := told_ord (nx := leD S) h0 (leD_lt hd) (fun c v u _ hu => leD_sym hd hn c v u hu)
    unfold toldA at e2 e3
    rw [e1, e2, e3] at this
    exact this
  · rintro ⟨l1, l2, l3⟩
    obtain ⟨_, hM, hT⟩ := told_back h0 l1 l2 (uncast_range _ _ l3) hf
    refine ⟨by rw [hM]; simp, ?_, ?_⟩
    · rw [hT 2 (by omega)]; exact fw_list l1
    · rw [hT 3 (by omega)]; exact fw_list l2
end Go.Proofs.YthliifgjolgmgaaDoor
