/-
  Reg Ring Steps SList Starts From Ways IWays.
-/
import Derived.OwnWalkIn
import Derived.OrdersIn
import Derived.Laws.AppendOwn
import Derived.Deep.RegionLaw
import Derived.RangeFuncBox
import Derived.LaidEql
import Derived.Shelf.RegionOpen
import Derived.Maps.AppendAt
import Derived.Test.YtifijokfgidbcaaDoorMA
import Derived.Test.YtifijokfgidbcaaDoorMB
import Derived.Test.YtifijokfgidbcaaDoorME
namespace Go.Proofs.YtifijokfgidbcaaDoor
set_option maxRecDepth 100000
set_option linter.unusedVariables false
set_option linter.unusedSimpArgs false
set_option linter.unusedSectionVars false

/-! An append to a slice of the call's own, as one step of a region that draws its order. -/
section
open Go.RowKit

theorem step_append_own_in {F : Fence} {nF : Nat} {P : Program} (w : World) {ops : Array Oper} {o : Oper} {a : Act} {K : Act → World → Prop} {Q : Exit → Act → World → Prop} {E : Prop}
    (hg : o.guard = none) (s x : Operand) (t : TypeId) (hop : o.op = Op.call { callee := Callee.builtin Builtin.append, args := #[s, x], argTypes := #[t, t] })
    (base : Nat) (e : TypeId) (i : TypeInfo) (z : Value) (size bytes : Nat) (h1 : P.underlying t = some (.slice e)) (h2 : P.info? e = some i) (h3 : i.zero = some z) (h4 : i.size = size) (h5 : i.bytes = bytes) (h6 : z.cells.size = size) (h7 : 0 < size)
    (v : Value) (k : Nat) (xs : List Value) (hs : a.eval s = v) (hown : w.ownsRow base e size v k xs) (ad : Addr) (m c : Nat) (news : List Value) (hx : a.eval x = .slice (some ad) m c) (hn : news.length = m * size)
    (hc : ∀ j u, news[j]? = some u → w.cell? (ad.add j) = some u) (h1c : ∀ u ∈ news, u.oneCell' = true) (b1 : k + m ≤ maxLen) (b2 : (k + m) * bytes ≤ 140737488355328) (b3 : base ≤ w.heap.size)
    (hK : ∀ v' w', w'.ownsRow base e size v' (k + m) (xs ++ news) → w.grownBy w' v.ownBlock → (v' = .slice none 0 0 ↔ v = .slice none 0 0 ∧ m = 0) → K (a.put o.dst v') w') :
    if Region.wanted o (yielded ops a.tmps) = true then Oper.wpIn F nF P o a w K Q else E := by
  have hw : Region.wanted o (yielded ops a.tmps) = true := by simp [Region.wanted, hg]
  rw [if_pos hw]
  obtain ⟨v', w', hrun, r1, r2, r3⟩ := run_append_own (P := P) w base t o.type e i z size bytes h1 h2 h3 h4 h5 h6 h7 v k xs hown ad m c news hn hc h1c b1 b2 b3
  unfold Oper.wpIn
  refine ⟨?_, ?_⟩
  · simp [Oper.about, hop, resolve, Target.leads, Sem.run_pure]
  · rw [Oper.semAt_plain F _ _ (by rw [hop]; intro c hc'; cases hc')]
    simp [execOp, hop, resolve, invoke, builtin, hs, hx, hrun, Result.andThen]
    exact hK v' w' r1 r2 r3

theorem step_append_own {P : Program} (w : World) {ops : Array Oper} {o : Oper} {a : Act} {K : Act → World → Prop} {Q : Exit → Act → World → Prop} {E : Prop}
    (hg : o.guard = none) (s x : Operand) (t : TypeId) (hop : o.op = Op.call { callee := Callee.builtin Builtin.append, args := #[s, x], argTypes := #[t, t] })
    (base : Nat) (e : TypeId) (i : TypeInfo) (z : Value) (size bytes : Nat) (h1 : P.underlying t = some (.slice e)) (h2 : P.info? e = some i) (h3 : i.zero = some z) (h4 : i.size = size) (h5 : i.bytes = bytes) (h6 : z.cells.size = size) (h7 : 0 < size)
    (v : Value) (k : Nat) (xs : List Value) (hs : a.eval s = v) (hown : w.ownsRow base e size v k xs) (ad : Addr) (m c : Nat) (news : List Value) (hx : a.eval x = .slice (some ad) m c) (hn : news.length = m * size)
    (hc : ∀ j u, news[j]? = some u → w.cell? (ad.add j) = some u) (h1c : ∀ u ∈ news, u.oneCell' = true) (b1 : k + m ≤ maxLen) (b2 : (k + m) * bytes ≤ 140737488355328) (b3 : base ≤ w.heap.size)
    (hK : ∀ v' w', w'.ownsRow base e size v' (k + m) (xs ++ news) → w.grownBy w' v.ownBlock → (v' = .slice none 0 0 ↔ v = .slice none 0 0 ∧ m = 0) → K (a.put o.dst v') w') :
    if Region.wanted o (yielded ops a.tmps) = true then Oper.wp P o a w K Q else E := by
  have hw : Region.wanted o (yielded ops a.tmps) = true := by simp [Region.wanted, hg]
  rw [if_pos hw]
  exact wp_append_own w s x t hop base e i z size bytes h1 h2 h3 h4 h5 h6 h7 v k xs hs hown ad m c news hx hn hc h1c b1 b2 b3 hK
end

/-! Ways in memory: steps linked round. impl.linked. -/
section
open Go.RowKit Go.Shelf

end

/-! (impl.way).steps and its closure: the steps of a way once round, by its contract; (impl.way).list. -/
section
open Go.RowKit Go.Shelf
attribute [local go_sem] Oper.semAt_some

end

/-! (impl.way).list: the points of a way. -/
section
open Go.RowKit Go.Shelf
attribute [local go_sem] Oper.semAt_some

end

/-! (impl.chart).starts, (impl.chart).wayFrom. -/
section
open Go.RowKit

/-- two lists of numbers that the call owns, apart -/
structure Duo (W : World) (base : Nat) (v1 v2 : Value) (L1 L2 : List Int) : Prop where
  o1 : W.ownsRow base 3 1 v1 L1.length (ivs L1)
  o2 : W.ownsRow base 3 1 v2 L2.length (ivs L2)
  ap : ∀ g, v1.ownBlock = some g → v2.ownBlock = some g → False
theorem Duo.swap {W : World} {base : Nat} {v1 v2 : Value} {L1 L2 : List Int} (h : Duo W base v1 v2 L1 L2) : Duo W base v2 v1 L2 L1 := ⟨h.o2, h.o1, fun g a b => h.ap g b a⟩
theorem Duo.app {W w1 : World} {base : Nat} {v1 v2 v' : Value} {L1 L2 : List Int} {z : Int} {o : Obj} (h : Duo W base v1 v2 L1 L2)
    (hown' : w1.ownsRow base 3 1 v' (L1.length + 1) (ivs L1 ++ [.int .i64 z])) (hgrow : (W.alloc o).grownBy w1 v1.ownBlock) (hat : v'.ownBlock = v1.ownBlock ∨ v'.ownBlock = some (W.alloc o).heap.size) : Duo w1 base v' v2 (L1 ++ [z]) L2 := by
  have hne : v2.ownBlock = none ∨ v2.ownBlock ≠ v1.ownBlock := by
    cases h2 : v2.ownBlock with
    | none => exact .inl rfl
    | some g => exact .inr (fun e => h.ap g e.symm h2)
  refine ⟨?_, (h.o2.alloc o).kept hgrow hne, fun g hg hg2 => ?_⟩
  · rw [← ivs_snoc, List.length_append]; exact hown'
  · rcases hat with e | e
    · exact h.ap g (e ▸ hg) hg2
    · rw [e] at hg
      have := (h.o2.lt g hg2).2
      simp at hg
      omega
theorem Duo.below {W W' : World} {base : Nat} {v1 v2 : Value} {L1 L2 : List Int} (h : Duo W base v1 v2 L1 L2) (hb : Below W.heap.size W W') : Duo W' base v1 v2 L1 L2 := ⟨own_below h.o1 hb, own_below h.o2 hb, h.ap⟩
/-- numbers as places -/
def nI (L : List Nat) : List Int := L.map (fun (i : Nat) => (i : Int))
theorem nI_append (L M : List Nat) : nI (L ++ M) = nI L ++ nI M := by simp [nI]
theorem nI_length (L : List Nat) : (nI L).length = L.length := by simp [nI]
theorem below_grow {w W w1 : World} {base n : Nat} {v : Value} {e : TypeId} {xs : List Value} {o : Obj} (hB : Below w.heap.size w W) (hown : W.ownsRow base e 1 v n xs) (hb : w.heap.size ≤ base) (hgrow : (W.alloc o).grownBy w1 v.ownBlock) : Below w.heap.size w w1 :=
  (hB.alloc hB.size o).grown hgrow (by have := hB.size; simp; omega) (fun g e => by have := (hown.lt g e).1; omega)

end

/-! (impl.chart).wayFrom. -/
section
open Go.RowKit


/-- a block of another type is not touched by an append to a list of numbers -/
theorem heap_keep {W w1 : World} {B base k : Nat} {cur : Array Value} {t : TypeId} {v : Value} {xs : List Value} {o : Obj} (h : W.heap[B]? = some (.cells cur t (0, 0))) (ht : t ≠ 3) (hr : W.ownsRow base 3 1 v k xs) (hgrow : (W.alloc o).grownBy w1 v.ownBlock) : w1.heap[B]? = W.heap[B]? := by
  have hlt : B < W.heap.size := (Array.getElem?_eq_some_iff.1 h).1
  have hne : some B ≠ v.ownBlock := by
    rcases hr.2 with ⟨rfl, _⟩ | ⟨g, cap, cur', rfl, _, hgb, _⟩
    · simp [Value.ownBlock]
    · intro e'
      obtain rfl : B = g := by simpa [Value.ownBlock] using e'
      have := h.symm.trans hgb
      simp at this
      exact ht this.2
  exact (hgrow.block B (by simp; omega) hne).trans ((World.grownBy_alloc W o none).block B hlt (by simp))
theorem cb_grow {W w1 : World} {B base k : Nat} {n : Int} {T : Nat → Int} {v : Value} {xs : List Value} {o : Obj} (h : Cb W B n T) (hr : W.ownsRow base 3 1 v k xs) (hgrow : (W.alloc o).grownBy w1 v.ownBlock) : Cb w1 B n T := by
  have h' := h
  obtain ⟨c, hb, _⟩ := h'
  exact World.rowIs.of_block h (heap_keep hb (by decide) hr hgrow)

end

/-! (impl.chart).ways. -/
section
open Go.RowKit Go.Shelf
attribute [local go_sem] Oper.semAt_some

/-! ### ways in memory -/
def wc : List (KW × Nat) → List Value
  | [] => []
  | p :: r => .int .i64 (p.1.1 : Int) :: .pointer (some ⟨p.2, 0, none⟩) :: wc r
theorem wc_append : ∀ (a b : List (KW × Nat)), wc (a ++ b) = wc a ++ wc b
  | [], b => rfl
  | p :: r, b => by show _ :: _ :: wc (r ++ b) = _; rw [wc_append r b]; rfl
theorem wc_length : ∀ (a : List (KW × Nat)), (wc a).length = a.length * 2
  | [] => rfl
  | p :: r => by show (wc r).length + 1 + 1 = _; rw [wc_length r]; simp; omega
theorem wc_get : ∀ (a : List (KW × Nat)) (t : Nat) (p : KW × Nat), a[t]? = some p → (wc a)[t * 2]? = some (.int .i64 (p.1.1 : Int)) ∧ (wc a)[t * 2 + 1]? = some (.pointer (some ⟨p.2, 0, none⟩))
  | [], t, p, h => by simp at h
  | q :: r, 0, p, h => by
    simp at h; subst h; exact ⟨rfl, rfl⟩
  | q :: r, t + 1, p, h => by
    have ih := wc_get r t p (by simpa using h)
    refine ⟨?_, ?_⟩
    · rw [show (t + 1) * 2 = t * 2 + 1 + 1 by omega]; exact ih.1
    · rw [show (t + 1) * 2 + 1 = t * 2 + 1 + 1 + 1 by omega]; exact ih.2
theorem wc_one (a : List (KW × Nat)) : ∀ u ∈ wc a, u.oneCell' = true := by
  induction a with
  | nil => intro u h; simp [wc] at h
  | cons p r ih =>
    intro u h
    simp only [wc, List.mem_cons] at h
    rcases h with rfl | rfl | h
    · rfl
    · rfl
    · exact ih u h

end

/-! impl.WaysOf. -/
section
open Go.RowKit

theorem OSS.nil (w : World) (lo hi : Nat) : OSS w lo hi (.slice none 0 0) [] := ⟨[], World.ownsRow_nil _ _ _ _, (fun g hg => by cases hg), Inn.nil⟩
theorem lsK_wL {zs : List Int} (hC : isC zs = true) : lsK (goK (ofL zs) zs.length (stL zs.length (raN zs)) []) = waysL zs := by
  rw [go_all (isC_CH hC) (raN_range hC), lsK_kw]
  simp [waysL, chainsL, cyclesL, hC]
theorem ways_ne {zs : List Int} (hC : isC zs = true) : 1 ≤ (waysL zs).length := by
  have h := ways_once (isC_CH hC) (raN_range hC) (show 0 < zs.length from (isC_CH hC).one)
  have e : waysL zs = chL (ofL zs) zs.length (raN zs) zs.length ++ cyL (ofL zs) zs.length (orSS 0 (chL (ofL zs) zs.length (raN zs) zs.length)) zs.length := by simp [waysL, chainsL, cyclesL, hC]
  rw [← e] at h
  cases hw : waysL zs with
  | nil => rw [hw] at h; simp [occ] at h
  | cons a b => simp
theorem raN_is {zs : List Int} (hC : isC zs = true) : raN zs = domL (mv (turnL zs.length (mv (ofL zs) zs.length)) zs.length) := by unfold raN; rw [mvT_yes hC, fk_yes hC]


end

end Go.Proofs.YtifijokfgidbcaaDoor
