/-
  Drawings, folded; the nodes that are met, numbered in order; a numbered graph is one as told. Mathematics: no program.
-/
import Derived.Test.YthliifgjolgmgaaDoorBq
namespace Go.Proofs.YthliifgjolgmgaaDoor
set_option maxRecDepth 100000
set_option linter.unusedVariables false
open Go.RowKit

/-- an arrow of a drawing: from, letter, to -/
abbrev Sk := Nat × Nat × Nat
def inL (c : Nat) : Nat := (c + 2) % 4
theorem inL_inL {c : Nat} (h : c < 4) : inL (inL c) = c := by unfold inL; omega
theorem inL_lt (c : Nat) : inL c < 4 := by unfold inL; omega
structure Drw (S : List Sk) (n : Nat) : Prop where
  nd : ∀ e ∈ S, e.1 < n ∧ e.2.1 < 4 ∧ e.2.2 < n
  sym : ∀ f l t, (f, l, t) ∈ S → (t, inL l, f) ∈ S
def NoCl (S : List Sk) : Prop := ∀ f l t t', (f, l, t) ∈ S → (f, l, t') ∈ S → t = t'
def ren (i j x : Nat) : Nat := if x = max i j then min i j else x
def uniS (i j : Nat) (S : List Sk) : List Sk := S.map (fun e => (ren i j e.1, e.2.1, ren i j e.2.2))
theorem ren_lt {i j x n : Nat} (hi : i < n) (hj : j < n) (hx : x < n) : ren i j x < n := by
  unfold ren; split
  · omega
  · exact hx
theorem ren_le (i j x : Nat) : ren i j x ≤ x := by unfold ren; split <;> omega
inductive FoldS : List Sk → List Sk → Prop
  | refl (S) : FoldS S S
  | step {S S' f l t t'} : (f, l, t) ∈ S → (f, l, t') ∈ S → t ≠ t' → FoldS (uniS t t' S) S' → FoldS S S'
theorem FoldS.trans {A B C : List Sk} (h : FoldS A B) (h2 : FoldS B C) : FoldS A C := by
  induction h with
  | refl => exact h2
  | step a b c _ ih => exact .step a b c (ih h2)
theorem Drw.uni {S : List Sk} {n i j : Nat} (h : Drw S n) (hi : i < n) (hj : j < n) : Drw (uniS i j S) n := by
  refine ⟨fun e he => ?_, fun f l t he => ?_⟩
  · obtain ⟨x, hx, rfl⟩ := List.mem_map.1 he
    have := h.nd x hx
    exact ⟨ren_lt hi hj this.1, this.2.1, ren_lt hi hj this.2.2⟩
  · obtain ⟨⟨f', l', t'⟩, hx, e⟩ := List.mem_map.1 he
    injection e with e1 e2
    injection e2 with e2 e3
    subst e1 e2 e3
    exact List.mem_map.2 ⟨(t', inL l', f'), h.sym _ _ _ hx, rfl⟩
theorem FoldS.drw {S S' : List Sk} {n : Nat} (h : FoldS S S') (hd : Drw S n) : Drw S' n := by
  induction h with
  | refl => exact hd
  | step a b _ _ ih => exact ih (hd.uni (hd.nd _ a).2.2 (hd.nd _ b).2.2)
theorem FoldS.len {S S' : List Sk} (h : FoldS S S') : S'.length = S.length := by
  induction h with
  | refl => rfl
  | step _ _ _ _ ih => rw [ih]; unfold uniS; rw [List.length_map]
theorem FoldS.same {S S' : List Sk} (h : FoldS S S') (hn : NoCl S) : S' = S := by
  cases h with
  | refl => rfl
  | step a b c _ => exact absurd (hn _ _ _ _ a b) c
/-- where a letter leads in a drawing -/
def leD (S : List Sk) (c v : Nat) : Option Nat := (S.find? (fun e => e.1 == v && e.2.1 == c)).map (·.2.2)
theorem leD_mem {S : List Sk} {c v t : Nat} (h : leD S c v = some t) : (v, c, t) ∈ S := by
  unfold leD at h
  obtain ⟨⟨f, l, t'⟩, he, e⟩ := Option.map_eq_some_iff.1 h
  have hm := List.mem_of_find?_eq_some he
  have hp := List.find?_some he
  rw [Bool.and_eq_true, beq_iff_eq, beq_iff_eq] at hp
  obtain ⟨h1, h2⟩ := hp
  dsimp only at h1 h2 e
  subst h1 h2 e
  exact hm
theorem leD_iff {S : List Sk} (hn : NoCl S) {c v t : Nat} : leD S c v = some t ↔ (v, c, t) ∈ S := by
  refine ⟨leD_mem, fun h => ?_⟩
  cases hl : leD S c v with
  | none =>
    unfold leD at hl
    rw [Option.map_eq_none_iff, List.find?_eq_none] at hl
    exact absurd (by simp) (hl _ h)
  | some t' => rw [hn _ _ _ _ (leD_mem hl) h]

/-! ### what is met -/
theorem bfsQ_closed {nx : Nat → Nat → Option Nat} : ∀ (i p : Nat) (t : Qt) (c u : Nat), p < i → (bfsQ nx i)[p]? = some t → c < 4 → nx c t.1 = some u → u ∈ ndQ (bfsQ nx i) := by
  have scan : ∀ (k : Nat) (i v : Nat) (Q : List Qt) (c u : Nat), c < k → nx c v = some u → u ∈ ndQ (scanQ nx i v k Q) := by
    intro k
    induction k with
    | zero => intro i v Q c u h; omega
    | succ k ih =>
      intro i v Q c u h hu
      rw [scanQ_succ]
      rcases Nat.lt_or_ge c k with hc | hc
      · have := ih i v Q c u hc hu
        obtain ⟨L, hL⟩ := stepQ_pre i k (nx k v) (scanQ nx i v k Q)
        unfold ndQ at this ⊢
        rw [← hL, List.map_append]
        exact List.mem_append_left _ this
      · obtain rfl : c = k := by omega
        rw [hu]
        unfold stepQ
        dsimp only
        split
        · assumption
        · rw [ndQ_app]; simp
  intro i
  induction i with
  | zero => intro p t c u h; omega
  | succ i ih =>
    intro p t c u hp ht hc hu
    cases hq : (bfsQ nx i)[i]? with
    | none =>
      have e : bfsQ nx (i + 1) = bfsQ nx i := by
        show (match (bfsQ nx i)[i]? with
          | none => bfsQ nx i
          | some t => scanQ nx i t.1 4 (bfsQ nx i)) = _
        rw [hq]
      rw [e] at ht ⊢
      have hl := List.getElem?_eq_none_iff.1 hq
      have hl2 := (List.getElem?_eq_some_iff.1 ht).1
      exact ih p t c u (by omega) ht hc hu
    | some s =>
      rw [bfsQ_at hq] at ht ⊢
      rcases Nat.lt_or_ge p i with h | h
      · have hl := (List.getElem?_eq_some_iff.1 hq).1
        obtain ⟨L, hL⟩ := scanQ_pre nx i s.1 (bfsQ nx i) 4
        have ht2 : (bfsQ nx i)[p]? = some t := by
          rw [← hL, List.getElem?_append_left (by omega)] at ht; exact ht
        have := ih p t c u h ht2 hc hu
        unfold ndQ at this ⊢
        rw [← hL, List.map_append]
        exact List.mem_append_left _ this
      · obtain rfl : p = i := by omega
        obtain ⟨L, hL⟩ := scanQ_pre nx p s.1 (bfsQ nx p) 4
        have hl := (List.getElem?_eq_some_iff.1 hq).1
        have : t = s := by
          rw [← hL, List.getElem?_append_left hl, hq] at ht
          exact (Option.some.inj ht).symm
        subst this
        exact scan 4 p t.1 _ c u hc hu
section
variable {nx : Nat → Nat → Option Nat} {n : Nat}
def metQ (nx : Nat → Nat → Option Nat) (n : Nat) : List Nat := ndQ (ordQ nx n)
theorem metQ_nodup (h0 : 0 < n) (hx : ∀ c v u, nx c v = some u → u < n) : (metQ nx n).Nodup := (bfsQ_ok h0 hx n).1
theorem metQ_lt (h0 : 0 < n) (hx : ∀ c v u, nx c v = some u → u < n) {v : Nat} (hv : v ∈ metQ nx n) : v < n := (bfsQ_ok h0 hx n).2 v hv
theorem metQ_len (h0 : 0 < n) (hx : ∀ c v u, nx c v = some u → u < n) : (metQ nx n).length ≤ n := by
  unfold metQ; rw [ndQ_len]; exact (bfsQ_ok h0 hx n).len
theorem metQ_closed (h0 : 0 < n) (hx : ∀ c v u, nx c v = some u → u < n) {v c u : Nat} (hv : v ∈ metQ nx n) (hc : c < 4) (hu : nx c v = some u) : u ∈ metQ nx n := by
  unfold metQ ordQ ndQ at hv
  obtain ⟨t, ht, rfl⟩ := List.mem_map.1 hv
  obtain ⟨p, hp⟩ := List.getElem?_of_mem ht
  have hpl := (List.getElem?_eq_some_iff.1 hp).1
  have := (bfsQ_ok (nx := nx) h0 hx n).len
  exact bfsQ_closed n p t c u (by omega) hp hc hu
theorem bfsQ_first : ∀ i, (bfsQ nx i)[0]? = some (0, 0, -1)
  | 0 => rfl
  | i + 1 => by
    obtain ⟨L, hL⟩ := bfsQ_pre (nx := nx) i
    have := bfsQ_first i
    rw [← hL, List.getElem?_append_left (List.getElem?_eq_some_iff.1 this).1, this]
theorem metQ_first : (metQ nx n)[0]? = some 0 := by
  unfold metQ ordQ ndQ; rw [List.getElem?_map, bfsQ_first]; rfl
/-- the place of a node -/
def ixQ (M : List Nat) (v : Nat) : Nat := M.idxOf v
theorem ixQ_lt {M : List Nat} {v : Nat} (h : v ∈ M) : ixQ M v < M.length := List.idxOf_lt_length_of_mem h
theorem ixQ_get {M : List Nat} {v : Nat} (h : v ∈ M) : M[ixQ M v]? = some v := by
  rw [List.getElem?_eq_getElem (ixQ_lt h)]; simp [ixQ]
theorem ixQ_of {M : List Nat} (hn : M.Nodup) {p v : Nat} (h : M[p]? = some v) : ixQ M v = p := by
  have hp := (List.getElem?_eq_some_iff.1 h)
  have hv : v ∈ M := List.mem_of_getElem? h
  have h2 := ixQ_get hv
  have hl := ixQ_lt hv
  exact (List.getElem?_inj hl hn).1 (h2.trans h.symm)
theorem ixQ_inj {M : List Nat} {u v : Nat} (hu : u ∈ M) (hv : v ∈ M) (h : ixQ M u = ixQ M v) : u = v := by
  have a := ixQ_get hu
  rw [h, ixQ_get hv] at a
  exact (Option.some.inj a).symm
/-- where letters lead among the numbered nodes -/
def nxN (nx : Nat → Nat → Option Nat) (M : List Nat) (c p : Nat) : Option Nat := (M[p]?).bind (fun v => (nx c v).map (ixQ M))
def relQ (M : List Nat) (t : Qt) : Qt := (ixQ M t.1, t.2.1, t.2.2)
theorem relQ_nd (M : List Nat) (Q : List Qt) : ndQ (Q.map (relQ M)) = (ndQ Q).map (ixQ M) := by unfold ndQ; rw [List.map_map, List.map_map]; rfl
theorem step_rel {M : List Nat} {i c : Nat} {x : Option Nat} {Q : List Qt} (hQ : ∀ v ∈ ndQ Q, v ∈ M) (hx : ∀ u, x = some u → u ∈ M) : stepQ i c (x.map (ixQ M)) (Q.map (relQ M)) = (stepQ i c x Q).map (relQ M) := by
  cases x with
  | none => rfl
  | some u =>
    show (if ixQ M u ∈ ndQ (Q.map (relQ M)) then _ else _) = _
    unfold stepQ
    dsimp only
    rw [relQ_nd]
    by_cases h : u ∈ ndQ Q
    · rw [if_pos h, if_pos (List.mem_map.2 ⟨u, h, rfl⟩)]
    · rw [if_neg h, if_neg (fun hm => ?_), List.map_append]
      · rfl
      · obtain ⟨v, hv, e⟩ := List.mem_map.1 hm
        exact h (by rw [← ixQ_inj (hQ v hv) (hx u rfl) e]; exact hv)
theorem bfs_rel (h0 : 0 < n) (hx : ∀ c v u, nx c v = some u → u < n) : ∀ i, i ≤ n → bfsQ (nxN nx (metQ nx n)) i = (bfsQ nx i).map (relQ (metQ nx n)) := by
  have hsub : ∀ i, i ≤ n → ∀ v ∈ ndQ (bfsQ nx i), v ∈ metQ nx n := by
    intro i hi v hv
    have : ∀ j, bfsQ nx i <+: bfsQ nx (i + j) := by
      intro j
      induction j with
      | zero => exact List.prefix_refl _
      | succ j ih => exact ih.trans (bfsQ_pre (i + j))
    obtain ⟨L, hL⟩ := this (n - i)
    rw [show i + (n - i) = n by omega] at hL
    unfold metQ ordQ ndQ at *
    rw [← hL, List.map_append]
    exact List.mem_append_left _ hv
  have hz : ixQ (metQ nx n) 0 = 0 := ixQ_of (metQ_nodup h0 hx) metQ_first
  intro i
  induction i with
  | zero => intro _; show [((0 : Nat), (0 : Nat), (-1 : Int))] = [relQ _ (0, 0, -1)]; unfold relQ; rw [hz]
  | succ i ih =>
    intro hi
    have e := ih (by omega)
    cases hq : (bfsQ nx i)[i]? with
    | none =>
      have hq2 : (bfsQ (nxN nx (metQ nx n)) i)[i]? = none := by rw [e, List.getElem?_map, hq]; rfl
      have a : bfsQ nx (i + 1) = bfsQ nx i := by
        show (match (bfsQ nx i)[i]? with
          | none => bfsQ nx i
          | some t => scanQ nx i t.1 4 (bfsQ nx i)) = _
        rw [hq]
      have b : bfsQ (nxN nx (metQ nx n)) (i + 1) = bfsQ (nxN nx (metQ nx n)) i := by
        show (match (bfsQ (nxN nx (metQ nx n)) i)[i]? with
          | none => bfsQ (nxN nx (metQ nx n)) i
          | some t => scanQ (nxN nx (metQ nx n)) i t.1 4 (bfsQ (nxN nx (metQ nx n)) i)) = _
        rw [hq2]
      rw [a, b, e]
    | some s =>
      have hq2 : (bfsQ (nxN nx (metQ nx n)) i)[i]? = some (relQ (metQ nx n) s) := by rw [e, List.getElem?_map, hq]; rfl
      rw [bfsQ_at hq, bfsQ_at hq2, e]
      have hs : s.1 ∈ metQ nx n := hsub i (by omega) _ (List.mem_map.2 ⟨s, List.mem_of_getElem? hq, rfl⟩)
      have hnx : ∀ c, nxN nx (metQ nx n) c (ixQ (metQ nx n) s.1) = (nx c s.1).map (ixQ (metQ nx n)) := fun c => by
        unfold nxN; rw [ixQ_get hs]; rfl
      have key : ∀ k, k ≤ 4 → scanQ (nxN nx (metQ nx n)) i (ixQ (metQ nx n) s.1) k ((bfsQ nx i).map (relQ (metQ nx n))) = (scanQ nx i s.1 k (bfsQ nx i)).map (relQ (metQ nx n)) := by
        intro k
        induction k with
        | zero => intro _; rfl
        | succ k ihk =>
          intro hk
          rw [scanQ_succ, scanQ_succ, ihk (by omega), hnx]
          refine step_rel (fun v hv => ?_) (fun u hu => metQ_closed h0 hx hs (by omega) hu)
          have hpre : scanQ nx i s.1 k (bfsQ nx i) <+: scanQ nx i s.1 4 (bfsQ nx i) := by
            have : ∀ j, scanQ nx i s.1 k (bfsQ nx i) <+: scanQ nx i s.1 (k + j) (bfsQ nx i) := by
              intro j
              induction j with
              | zero => exact List.prefix_refl _
              | succ j ihj => exact ihj.trans (by rw [← Nat.add_assoc, scanQ_succ]; exact stepQ_pre _ _ _ _)
            have := this (4 - k)
            rwa [show k + (4 - k) = 4 by omega] at this
          rw [← bfsQ_at hq] at hpre
          obtain ⟨L, hL⟩ := hpre
          refine hsub (i + 1) hi v ?_
          unfold ndQ at hv ⊢
          rw [← hL, List.map_append]
          exact List.mem_append_left _ hv
      exact key 4 (Nat.le_refl _)
theorem map_ix {M : List Nat} (hn : M.Nodup) : M.map (ixQ M) = List.range M.length := by
  apply List.ext_getElem?
  intro p
  rw [List.getElem?_map]
  rcases Nat.lt_or_ge p M.length with h | h
  · rw [List.getElem?_eq_getElem h, List.getElem?_range h]
    exact congrArg some (ixQ_of hn (List.getElem?_eq_getElem h))
  · rw [List.getElem?_eq_none h, List.getElem?_eq_none (by simp; exact h)]; rfl
/-- the nodes of a numbered graph are met in order -/
theorem ord_num (h0 : 0 < n) (hx : ∀ c v u, nx c v = some u → u < n) : ndQ (ordQ (nxN nx (metQ nx n)) (metQ nx n).length) = List.range (metQ nx n).length := by
  have hl := metQ_len (nx := nx) h0 hx
  have hN : ordQ (nxN nx (metQ nx n)) (metQ nx n).length = bfsQ (nxN nx (metQ nx n)) n := by
    have e := bfs_rel (nx := nx) h0 hx (metQ nx n).length hl
    have hen : (bfsQ (nxN nx (metQ nx n)) n).length = (metQ nx n).length := by
      rw [bfs_rel (nx := nx) h0 hx n (Nat.le_refl _), List.length_map]; unfold metQ ordQ; rw [ndQ_len]
    have hpre : ∀ j, bfsQ (nxN nx (metQ nx n)) (metQ nx n).length <+: bfsQ (nxN nx (metQ nx n)) ((metQ nx n).length + j) := by
      intro j
      induction j with
      | zero => exact List.prefix_refl _
      | succ j ih => exact ih.trans (bfsQ_pre _)
    have h1 := (hpre (n - (metQ nx n).length)).length_le
    rw [show (metQ nx n).length + (n - (metQ nx n).length) = n by omega, hen] at h1
    have := bfsQ_end (nx := nxN nx (metQ nx n)) (i := (metQ nx n).length) h1 (n - (metQ nx n).length)
    rw [show (metQ nx n).length + (n - (metQ nx n).length) = n by omega] at this
    exact this.symm
  rw [hN, bfs_rel (nx := nx) h0 hx n (Nat.le_refl _), relQ_nd]
  exact map_ix (metQ_nodup h0 hx)
/-- the list that tells where a letter leads among the numbered nodes -/
def toN (nx : Nat → Nat → Option Nat) (M : List Nat) (c : Nat) : List Int := M.map (fun v => enc ((nx c v).map (ixQ M)))
theorem toN_len (nx : Nat → Nat → Option Nat) (M : List Nat) (c : Nat) : (toN nx M c).length = M.length := by unfold toN; rw [List.length_map]
theorem toN_get {M : List Nat} {c p v : Nat} (h : M[p]? = some v) : (toN nx M c)[p]? = some (enc ((nx c v).map (ixQ M))) := by unfold toN; rw [List.getElem?_map, h]; rfl
theorem toN_some {M : List Nat} {c p q : Nat} (h : (toN nx M c)[p]? = some (q : Int)) : ∃ v u, M[p]? = some v ∧ nx c v = some u ∧ ixQ M u = q := by
  unfold toN at h
  rw [List.getElem?_map] at h
  obtain ⟨v, hv, e⟩ := Option.map_eq_some_iff.1 h
  refine ⟨v, ?_⟩
  cases hu : nx c v with
  | none => rw [hu] at e; change (-1 : Int) = _ at e; omega
  | some u =>
    rw [hu] at e
    change ((ixQ M u : Nat) : Int) = _ at e
    exact ⟨u, hv, rfl, by omega⟩
theorem toN_leads (h0 : 0 < n) (hx : ∀ c v u, nx c v = some u → u < n) {c : Nat} (hc : c < 4) (hs : ∀ v u, nx c v = some u → nx (inL c) u = some v) : Leads (toN nx (metQ nx n) c) (metQ nx n).length := by
  refine ⟨toN_len _ _ _, fun z hz => ?_, fun i j z hi hj h => ?_⟩
  · unfold toN at hz
    obtain ⟨v, hv, rfl⟩ := List.mem_map.1 hz
    cases hu : nx c v with
    | none => exact ⟨Int.le_refl _, by show (-1 : Int) < _; omega⟩
    | some u =>
      have := ixQ_lt (metQ_closed h0 hx hv hc hu)
      exact ⟨by show -1 ≤ ((ixQ _ u : Nat) : Int); omega, by show ((ixQ _ u : Nat) : Int) < _; omega⟩
  · obtain ⟨q, rfl⟩ : ∃ q : Nat, z = (q : Int) := ⟨z.toNat, by omega⟩
    obtain ⟨v, u, a1, a2, a3⟩ := toN_some hi
    obtain ⟨v', u', b1, b2, b3⟩ := toN_some hj
    have hu := metQ_closed h0 hx (List.mem_of_getElem? a1) hc a2
    have hu' := metQ_closed h0 hx (List.mem_of_getElem? b1) hc b2
    have e := ixQ_inj hu hu' (by rw [a3, b3])
    subst e
    have h1 := hs _ _ a2
    rw [hs _ _ b2] at h1
    injection h1 with h1
    subst h1
    have hi' := (List.getElem?_eq_some_iff.1 a1).1
    exact (List.getElem?_inj hi' (metQ_nodup h0 hx)).1 (a1.trans b1.symm)
/-- the two lists tell where the letters lead -/
theorem nxG_toN (h0 : 0 < n) (hx : ∀ c v u, nx c v = some u → u < n) (hs : ∀ c v u, c < 4 → nx c v = some u → nx (inL c) u = some v) {c p : Nat} (hc : c < 4) (hp : p < (metQ nx n).length) :
    nxG (toN nx (metQ nx n) 2) (toN nx (metQ nx n) 3) (metQ nx n).length c p = nxN nx (metQ nx n) c p := by
  obtain ⟨v, hv⟩ : ∃ v, (metQ nx n)[p]? = some v := ⟨_, List.getElem?_eq_getElem hp⟩
  have hnd := metQ_nodup (nx := nx) h0 hx
  have hR : nxN nx (metQ nx n) c p = (nx c v).map (ixQ (metQ nx n)) := by unfold nxN; rw [hv]; rfl
  rw [hR]
  have fw : ∀ d, fwK (toN nx (metQ nx n) d) p = (nx d v).map (ixQ (metQ nx n)) := fun d => by
    cases hu : nx d v with
    | none =>
      cases hf : fwK (toN nx (metQ nx n) d) p with
      | none => rfl
      | some q =>
        have := fwK_is.1 hf
        rw [toN_get hv, hu] at this
        injection this with this
        change (-1 : Int) = _ at this
        omega
    | some u => exact fwK_is.2 (by rw [toN_get hv, hu]; rfl)
  have bk : ∀ d e, d < 4 → e < 4 → inL d = e → bkK (toN nx (metQ nx n) d) (metQ nx n).length p = (nx e v).map (ixQ (metQ nx n)) := fun d e hd he hde => by
    have hL := toN_leads (nx := nx) h0 hx hd (fun v u h => hs d v u hd h)
    cases hu : nx e v with
    | none =>
      cases hb : bkK (toN nx (metQ nx n) d) (metQ nx n).length p with
      | none => rfl
      | some q =>
        obtain ⟨x, y, a1, a2, a3⟩ := toN_some (bkK_is hb)
        have hy := metQ_closed h0 hx (List.mem_of_getElem? a1) hd a2
        have : y = v := ixQ_inj hy (List.mem_of_getElem? hv) (by rw [a3, ixQ_of hnd hv])
        subst this
        have := hs _ _ _ hd a2
        rw [hde, hu] at this; cases this
    | some u =>
      have h1 := hs _ _ _ he hu
      rw [← hde, inL_inL hd] at h1
      have hum := metQ_closed h0 hx (List.mem_of_getElem? hv) he hu
      exact bkK_some hL (by rw [toN_get (ixQ_get hum), h1]; show some (((ixQ _ v : Nat) : Int)) = _; rw [ixQ_of hnd hv])
  match c, hc with
  | 0, _ => exact bk 2 0 (by omega) (by omega) rfl
  | 1, _ => exact bk 3 1 (by omega) (by omega) rfl
  | 2, _ => exact fw 2
  | 3, _ => exact fw 3
theorem bfs_ext {nx nx' : Nat → Nat → Option Nat} {N : Nat} (h0 : 0 < N) (hx : ∀ c v u, nx c v = some u → u < N) (he : ∀ c v, c < 4 → v < N → nx' c v = nx c v) : ∀ i, bfsQ nx' i = bfsQ nx i := by
  intro i
  induction i with
  | zero => rfl
  | succ i ih =>
    cases hq : (bfsQ nx i)[i]? with
    | none =>
      have hq2 : (bfsQ nx' i)[i]? = none := by rw [ih]; exact hq
      have a : bfsQ nx (i + 1) = bfsQ nx i := by
        show (match (bfsQ nx i)[i]? with
          | none => bfsQ nx i
          | some t => scanQ nx i t.1 4 (bfsQ nx i)) = _
        rw [hq]
      have b : bfsQ nx' (i + 1) = bfsQ nx' i := by
        show (match (bfsQ nx' i)[i]? with
          | none => bfsQ nx' i
          | some t => scanQ nx' i t.1 4 (bfsQ nx' i)) = _
        rw [hq2]
      rw [a, b, ih]
    | some s =>
      have hq2 : (bfsQ nx' i)[i]? = some s := by rw [ih]; exact hq
      rw [bfsQ_at hq, bfsQ_at hq2, ih]
      have hs : s.1 < N := (bfsQ_ok h0 hx i).2 _ (List.mem_map.2 ⟨s, List.mem_of_getElem? hq, rfl⟩)
      have key : ∀ k, k ≤ 4 → scanQ nx' i s.1 k (bfsQ nx i) = scanQ nx i s.1 k (bfsQ nx i) := by
        intro k
        induction k with
        | zero => intro _; rfl
        | succ k ihk => intro hk; rw [scanQ_succ, scanQ_succ, ihk (by omega), he k s.1 (by omega) hs]
      exact key 4 (Nat.le_refl _)
/-- a numbered graph is numbered in order -/
theorem num_ord (h0 : 0 < n) (hx : ∀ c v u, nx c v = some u → u < n) (hs : ∀ c v u, c < 4 → nx c v = some u → nx (inL c) u = some v) :
    ndQ (ordQ (nxG (toN nx (metQ nx n) 2) (toN nx (metQ nx n) 3) (metQ nx n).length) (metQ nx n).length) = List.range (metQ nx n).length := by
  have hpos : 0 < (metQ nx n).length := (List.getElem?_eq_some_iff.1 (metQ_first (nx := nx) (n := n))).1
  have hb : ∀ c v u, nxN nx (metQ nx n) c v = some u → c < 4 → u < (metQ nx n).length := fun c v u h hc => by
    unfold nxN at h
    obtain ⟨x, hx1, hx2⟩ := Option.bind_eq_some_iff.1 h
    obtain ⟨y, hy, rfl⟩ := Option.map_eq_some_iff.1 hx2
    exact ixQ_lt (metQ_closed h0 hx (List.mem_of_getElem? hx1) hc hy)
  have hL2 := toN_leads (nx := nx) h0 hx (c := 2) (by omega) (fun v u h => hs 2 v u (by omega) h)
  have hL3 := toN_leads (nx := nx) h0 hx (c := 3) (by omega) (fun v u h => hs 3 v u (by omega) h)
  have e := bfs_ext (nx' := nxN nx (metQ nx n)) (N := (metQ nx n).length) hpos (nxG_lt hL2 hL3) (fun c v hc hv => (nxG_toN h0 hx hs hc hv).symm)
  have := ord_num (nx := nx) h0 hx
  unfold ordQ at this ⊢
  rw [← e]; exact this
end
end Go.Proofs.YthliifgjolgmgaaDoor
