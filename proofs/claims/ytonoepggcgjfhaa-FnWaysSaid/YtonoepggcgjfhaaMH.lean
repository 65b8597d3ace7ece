/-
  Reg Ring Steps SList Starts From Ways IWays.
-/
import Derived.OwnWalkIn
import Derived.OrdersIn
import Derived.Laws.AppendOwn
import Derived.Deep.RegionLaw
import Derived.RangeFuncBox
import Derived.LaidEql
import Derived.Shelf.RegionOpen
import Derived.Maps.AppendAt
import Derived.Test.YtonoepggcgjfhaaMA
import Derived.Test.YtonoepggcgjfhaaMB
import Derived.Test.YtonoepggcgjfhaaME
namespace Go.Proofs.Ytonoepggcgjfhaa
set_option maxRecDepth 100000
set_option linter.unusedVariables false
set_option linter.unusedSimpArgs false
set_option linter.unusedSectionVars false

/-! An append to a slice of the call's own, as one step of a region that draws its order. -/
section
open Go.RowKit

theorem step_append_own_in {F : Fence} {nF : Nat} {P : Program} (w : World) {ops : Array Oper} {o : Oper} {a : Act} {K : Act → World → Prop} {Q : Exit → Act → World → Prop} {E : Prop}
    (hg : o.guard = none) (s x : Operand) (t : TypeId) (hop : o.op = Op.call { callee := Callee.builtin Builtin.append, args := #[s, x], argTypes := #[t, t] })
    (base : Nat) (e : TypeId) (i : TypeInfo) (z : Value) (size bytes : Nat) (h1 : P.underlying t = some (.slice e)) (h2 : P.info? e = some i) (h3 : i.zero = some z) (h4 : i.size = size) (h5 : i.bytes = bytes) (h6 : z.cells.size = size) (h7 : 0 < size)
    (v : Value) (k : Nat) (xs : List Value) (hs : a.eval s = v) (hown : w.ownsRow base e size v k xs) (ad : Addr) (m c : Nat) (news : List Value) (hx : a.eval x = .slice (some ad) m c) (hn : news.length = m * size)
    (hc : ∀ j u, news[j]? = some u → w.cell? (ad.add j) = some u) (h1c : ∀ u ∈ news, u.oneCell' = true) (b1 : k + m ≤ maxLen) (b2 : (k + m) * bytes ≤ 140737488355328) (b3 : base ≤ w.heap.size)
    (hK : ∀ v' w', w'.ownsRow base e size v' (k + m) (xs ++ news) → w.grownBy w' v.ownBlock → (v' = .slice none 0 0 ↔ v = .slice none 0 0 ∧ m = 0) → K (a.put o.dst v') w') :
    if Region.wanted o (yielded ops a.tmps) = true then Oper.wpIn F nF P o a w K Q else E := by
  have hw : Region.wanted o (yielded ops a.tmps) = true := by simp [Region.wanted, hg]
  rw [if_pos hw]
  obtain ⟨v', w', hrun, r1, r2, r3⟩ := run_append_own (P := P) w base t o.type e i z size bytes h1 h2 h3 h4 h5 h6 h7 v k xs hown ad m c news hn hc h1c b1 b2 b3
  unfold Oper.wpIn
  refine ⟨?_, ?_⟩
  · simp [Oper.about, hop, resolve, Target.leads, Sem.run_pure]
  · rw [Oper.semAt_plain F _ _ (by rw [hop]; intro c hc'; cases hc')]
    simp [execOp, hop, resolve, invoke, builtin, hs, hx, hrun, Result.andThen]
    exact hK v' w' r1 r2 r3

theorem step_append_own {P : Program} (w : World) {ops : Array Oper} {o : Oper} {a : Act} {K : Act → World → Prop} {Q : Exit → Act → World → Prop} {E : Prop}
    (hg : o.guard = none) (s x : Operand) (t : TypeId) (hop : o.op = Op.call { callee := Callee.builtin Builtin.append, args := #[s, x], argTypes := #[t, t] })
    (base : Nat) (e : TypeId) (i : TypeInfo) (z : Value) (size bytes : Nat) (h1 : P.underlying t = some (.slice e)) (h2 : P.info? e = some i) (h3 : i.zero = some z) (h4 : i.size = size) (h5 : i.bytes = bytes) (h6 : z.cells.size = size) (h7 : 0 < size)
    (v : Value) (k : Nat) (xs : List Value) (hs : a.eval s = v) (hown : w.ownsRow base e size v k xs) (ad : Addr) (m c : Nat) (news : List Value) (hx : a.eval x = .slice (some ad) m c) (hn : news.length = m * size)
    (hc : ∀ j u, news[j]? = some u → w.cell? (ad.add j) = some u) (h1c : ∀ u ∈ news, u.oneCell' = true) (b1 : k + m ≤ maxLen) (b2 : (k + m) * bytes ≤ 140737488355328) (b3 : base ≤ w.heap.size)
    (hK : ∀ v' w', w'.ownsRow base e size v' (k + m) (xs ++ news) → w.grownBy w' v.ownBlock → (v' = .slice none 0 0 ↔ v = .slice none 0 0 ∧ m = 0) → K (a.put o.dst v') w') :
    if Region.wanted o (yielded ops a.tmps) = true then Oper.wp P o a w K Q else E := by
  have hw : Region.wanted o (yielded ops a.tmps) = true := by simp [Region.wanted, hg]
  rw [if_pos hw]
  exact wp_append_own w s x t hop base e i z size bytes h1 h2 h3 h4 h5 h6 h7 v k xs hs hown ad m c news hx hn hc h1c b1 b2 b3 hK
end

/-! Ways in memory: steps linked round. impl.linked. -/
section
open Go.RowKit Go.Shelf

/-- block B has the two cells u, v -/
def B2 (W : World) (B : Nat) (t : TypeId) (u v : Value) : Prop := W.heap[B]? = some (.cells #[u, v] t (0, 0))
section
variable {W W' : World} {B : Nat} {t : TypeId} {u v : Value}
theorem B2.lt (h : B2 W B t u v) : B < W.heap.size := (Array.getElem?_eq_some_iff.1 h).1
theorem B2.c0 (h : B2 W B t u v) : W.cell? ⟨B, 0, none⟩ = some u := by simp [World.cell?, show W.heap[B]? = _ from h]
theorem B2.c1 (h : B2 W B t u v) : W.cell? ⟨B, 1, none⟩ = some v := by simp [World.cell?, show W.heap[B]? = _ from h]
theorem B2.f0 (h : B2 W B t u v) : W.frozen? ⟨B, 0, none⟩ = false := by simp [World.frozen?, show W.heap[B]? = _ from h]
theorem B2.f1 (h : B2 W B t u v) : W.frozen? ⟨B, 1, none⟩ = false := by simp [World.frozen?, show W.heap[B]? = _ from h]
theorem B2.new (W : World) (t : TypeId) (u v : Value) : B2 (W.alloc (.cells #[u, v] t)) W.heap.size t u v := World.alloc_heap_new W _
theorem B2.same (h : B2 W B t u v) (e : W'.heap[B]? = W.heap[B]?) : B2 W' B t u v := e.trans h
theorem B2.alloc (h : B2 W B t u v) (o : Obj) : B2 (W.alloc o) B t u v := h.same ((World.grownBy_alloc W o none).block B h.lt (by simp))
theorem B2.below (h : B2 W B t u v) {n₀ : Nat} (hb : Below n₀ W W') (hB : B < n₀) : B2 W' B t u v := h.same (hb.block B hB)
theorem B2.other (h : B2 W B t u v) {a : Addr} (hne : B ≠ a.block) (x : Value) : B2 (W.setCell a x) B t u v := h.same (Below.heap_setCell W a x B hne)
theorem B2.set0 (h : B2 W B t u v) (u' : Value) : B2 (W.setCell ⟨B, 0, none⟩ u') B t u' v := by
  obtain ⟨hlt, hk⟩ := Array.getElem?_eq_some_iff.1 h
  show (W.heap.modify B _)[B]? = _
  rw [Array.getElem?_eq_getElem (by rw [Array.size_modify]; exact hlt), Array.getElem_modify_self, hk]
  rfl
theorem B2.set1 (h : B2 W B t u v) (v' : Value) : B2 (W.setCell ⟨B, 1, none⟩ v') B t u v' := by
  obtain ⟨hlt, hk⟩ := Array.getElem?_eq_some_iff.1 h
  show (W.heap.modify B _)[B]? = _
  rw [Array.getElem?_eq_getElem (by rw [Array.size_modify]; exact hlt), Array.getElem_modify_self, hk]
  rfl
end
/-- block B is a step: its point, the address of the next step -/
abbrev Stp (W : World) (B : Nat) (p : Int) (nx : Option Addr) : Prop := B2 W B 76 (.int .i64 p) (.pointer nx)
/-- block B is a way: its kind, the address of its first step -/
abbrev Wbx (W : World) (B : Nat) (kd : Int) (fp : Option Addr) : Prop := B2 W B 58 (.int .i64 kd) (.pointer fp)

/-- a ring of m steps from block b on -/
def Ring (W : World) (b m : Nat) (P : Nat → Int) : Prop := ∀ i, i < m → Stp W (b + i) (P i) (some ⟨b + (if i + 1 = m then 0 else i + 1), 0, none⟩)
/-- k + 1 steps of which the last leads nowhere -/
def Chn (W : World) (b k : Nat) (P : Nat → Int) : Prop := (∀ i, i < k → Stp W (b + i) (P i) (some ⟨b + (i + 1), 0, none⟩)) ∧ Stp W (b + k) (P k) none
section
variable {W W' : World} {b m k : Nat} {P : Nat → Int}
theorem Ring.same (h : Ring W b m P) (e : ∀ j, b ≤ j → j < b + m → W'.heap[j]? = W.heap[j]?) : Ring W' b m P := fun i hi => B2.same (h i hi) (e _ (by omega) (by omega))
theorem Ring.below (h : Ring W b m P) {B : Nat} (hb : Below B W W') (hB : b + m ≤ B) : Ring W' b m P := h.same (fun j _ hj => hb.block j (by omega))
theorem Ring.lt (h : Ring W b m P) (hm : 1 ≤ m) : b + m ≤ W.heap.size := by
  have := B2.lt (h (m - 1) (by omega))
  omega
theorem Ring.congr (h : Ring W b m P) {P' : Nat → Int} (e : ∀ i, i < m → P i = P' i) : Ring W b m P' := fun i hi => by rw [← e i hi]; exact h i hi
theorem Chn.start (W : World) (P : Nat → Int) : Chn (W.alloc (.cells #[.int .i64 (P 0), .pointer none] 76)) W.heap.size 0 P := ⟨fun i hi => by omega, B2.new W _ _ _⟩
theorem Chn.step (h : Chn W b k P) (hs : W.heap.size = b + k + 1) : Chn ((W.alloc (.cells #[.int .i64 (P (k + 1)), .pointer none] 76)).setCell ⟨b + k, 1, none⟩ (.pointer (some ⟨b + (k + 1), 0, none⟩))) b (k + 1) P := by
  have hn : Stp _ W.heap.size (P (k + 1)) none := B2.new W 76 (.int .i64 (P (k + 1))) (.pointer none)
  rw [hs] at hn
  refine ⟨fun i hi => ?_, ?_⟩
  · by_cases e : i = k
    · subst e; exact B2.set1 (B2.alloc h.2 _) _
    · exact B2.other (B2.alloc (h.1 i (by omega)) _) (by simp; omega) _
  · exact B2.other hn (by simp) _
theorem Chn.close (h : Chn W b k P) : Ring (W.setCell ⟨b + k, 1, none⟩ (.pointer (some ⟨b, 0, none⟩))) b (k + 1) P := fun i hi => by
  by_cases e : i = k
  · subst e; rw [if_pos rfl]; exact B2.set1 h.2 _
  · rw [if_neg (by omega)]; exact B2.other (h.1 i (by omega)) (by simp; omega) _
end

/-! ### are two addresses of steps one -/
theorem info_step : (Try.prog.info? 76).map (fun i => (i.zero, i.size, i.bytes)) = some (some (.agg #[.int .i64 0, .pointer none]), 2, 16) := by kernel_rfl
theorem neq_ptr_same {P : Program} {t te : TypeId} {j : TypeInfo} (hp : P.underlying t = some (.pointer te)) (hi : P.info? te = some j) (a : Addr) (w : World) : (binOp .neq t (.pointer (some a)) (.pointer (some a))).run P w = .ok (.bool false) w := by
  have h : ∀ d : Nat, (Op.equalIn (d + 1) t (.pointer (some a)) (.pointer (some a))).run P w = .ok true w := fun d => by simp [Op.equalIn, run_underlying hp, sizeOf, typeInfo, hi, run_sameAddr_same]
  simp only [binOp]
  simp [Op.equal, Op.maxDepth, h 9999]
theorem neq_ptr_other {P : Program} {t te : TypeId} {j : TypeInfo} (hp : P.underlying t = some (.pointer te)) (hi : P.info? te = some j) (hsz : j.size ≠ 0) {a b : Addr} {ca cb : Array Value} {ta tb : TypeId} {w : World} (hne : a ≠ b) (ha : w.heap[a.block]? = some (.cells ca ta (0, 0))) (hb : w.heap[b.block]? = some (.cells cb tb (0, 0))) : (binOp .neq t (.pointer (some a)) (.pointer (some b))).run P w = .ok (.bool true) w := by
  have h : ∀ d : Nat, (Op.equalIn (d + 1) t (.pointer (some a)) (.pointer (some b))).run P w = .ok false w := fun d => by simp [Op.equalIn, run_underlying hp, sizeOf, typeInfo, hi, hsz, run_sameAddr_other w hne ha hb]
  simp only [binOp]
  simp [Op.equal, Op.maxDepth, h 9999]
theorem run_neq_same (a : Addr) (w : World) : (binOp .neq 56 (.pointer (some a)) (.pointer (some a))).run Try.prog w = .ok (.bool false) w := by
  obtain ⟨i0, hi, hz0, hz1, hz2⟩ := info_parts info_step
  exact neq_ptr_same Try.underlying56 hi a w
theorem run_neq_other {a b : Addr} {u v u' v' : Value} {w : World} (hne : a ≠ b) (ha : B2 w a.block 76 u v) (hb : B2 w b.block 76 u' v') : (binOp .neq 56 (.pointer (some a)) (.pointer (some b))).run Try.prog w = .ok (.bool true) w := by
  obtain ⟨i0, hi, hz0, hz1, hz2⟩ := info_parts info_step
  exact neq_ptr_other Try.underlying56 hi (by omega) hne ha hb

theorem own_cap {w : World} {base size n N c : Nat} {e : TypeId} {a : Addr} {xs : List Value} (h : w.ownsRow base e size (.slice (some a) N c) n xs) : N = n ∧ n ≤ c ∧ c ≤ maxLen := by
  rcases h.2 with ⟨h1, _⟩ | ⟨g, cap, cur, h1, _, _, h2, h3, _⟩
  · cases h1
  · cases h1; exact ⟨rfl, h2, h3⟩

set_option maxHeartbeats 2000000 in
/-- impl.linked -/
theorem linked_any (kd : Int) (base g c n : Nat) (zs : List Int) (w : World) (h : w.ownsRow base 3 1 (.slice (some ⟨g, 0, none⟩) n c) n (ivs zs)) (hz : zs.length = n) (hn : 1 ≤ n) (hn' : n ≤ 1048576) :
    Calls Try.prog 42 #[.int .i64 kd, .slice (some ⟨g, 0, none⟩) n c] w fun e w' => e = .returned (.agg #[.int .i64 kd, .pointer (some ⟨w.heap.size + 1, 0, none⟩)]) ∧ Ring w' (w.heap.size + 1) n (ofL zs) ∧ Below w.heap.size w w' := by
  have hcap := (own_cap h).2
  have hgl : g < w.heap.size := (h.lt g rfl).2
  have hcell : Hid (∀ j, j < n → w.cell? ⟨g, j, none⟩ = some (.int .i64 (ofL zs j))) := fun j hj => by
    have hc := h.cells (g := g) rfl j (.int .i64 (zs[j]?.getD 0)) (by simp [ivs, show j < zs.length by omega])
    have hadd : (⟨g, 0, none⟩ : Addr).add j = ⟨g, j, none⟩ := by unfold Addr.add; split <;> simp_all
    rwa [hadd] at hc
  have h0 := hcell.out 0 (by omega)
  have h0' : (w.alloc (.cells #[.int .i64 0, .pointer none] 58)).cell? ⟨g, 0, none⟩ = some (.int .i64 (ofL zs 0)) := (World.cell?_alloc_lt w _ ⟨g, 0, none⟩ hgl).trans h0
  have hS := Chn.start (w.alloc (.cells #[.int .i64 0, .pointer none] 58)) (ofL zs)
  rw [World.size_alloc] at hS
  have hW : Wbx ((w.alloc (.cells #[.int .i64 0, .pointer none] 58)).alloc (.cells #[.int .i64 (ofL zs 0), .pointer none] 76)) w.heap.size 0 none := B2.alloc (B2.new w _ _ _) _
  clear h
  by_cases hc1 : c = 1
  · subst hc1
    go_enter Try.func42, Try.ntmps42
    go_wp2
    go_loopw [6, 18] (fun lst i wr => ∃ k : Nat, k + 1 ≤ n ∧ i = .int .i64 (k : Int) ∧ lst = .pointer (some ⟨w.heap.size + 1 + k, 0, none⟩) ∧ wr.heap.size = w.heap.size + 1 + k + 1 ∧ Chn wr (w.heap.size + 1) k (ofL zs) ∧ Wbx wr w.heap.size 0 none ∧ Below w.heap.size w wr) (fun _ i _ => n - (intOf i).toNat)
    case atStart => exact ⟨0, by omega, rfl, rfl, by simp, hS, hW, ((Below.refl _ w).alloc (Nat.le_refl _) _).alloc (by simp) _⟩
    case round =>
      clear hS h0 h0' hW
      obtain ⟨k, hk, rfl, rfl, hsz, hC, hW, hB⟩ := hrel
      have e1 := B2.c1 hC.2
      have e2 := B2.f1 hC.2
      by_cases hlt : k + 1 < n
      · omega
      · obtain rfl : n = k + 1 := by omega
        have hR := hC.close
        have hW2 := B2.set1 (B2.set0 (B2.other hW (a := ⟨w.heap.size + 1 + k, 1, none⟩) (by simp; omega) (.pointer (some ⟨w.heap.size + 1, 0, none⟩))) (.int .i64 kd)) (.pointer (some ⟨w.heap.size + 1, 0, none⟩))
        have hW1 := B2.other hW (a := ⟨w.heap.size + 1 + k, 1, none⟩) (by simp; omega) (.pointer (some ⟨w.heap.size + 1, 0, none⟩))
        have q0 := B2.c0 hW1
        have q1 := B2.c1 hW1
        have q2 := B2.f0 hW1
        have q3 := B2.f1 hW1
        have q4 := B2.c0 hW2
        have q5 := B2.c1 hW2
        have hR2 := hR.same (W' := ((wr.setCell ⟨w.heap.size + 1 + k, 1, none⟩ (.pointer (some ⟨w.heap.size + 1, 0, none⟩))).setCell ⟨w.heap.size, 0, none⟩ (.int .i64 kd)).setCell ⟨w.heap.size, 1, none⟩ (.pointer (some ⟨w.heap.size + 1, 0, none⟩))) (fun j h1 h2 => (Below.heap_setCell _ _ _ _ (by simp; omega)).trans (Below.heap_setCell _ _ _ _ (by simp; omega)))
        have hB' := ((hB.setCell (p := ⟨w.heap.size + 1 + k, 1, none⟩) (by simp; omega) (.pointer (some ⟨w.heap.size + 1, 0, none⟩))).setCell (p := ⟨w.heap.size, 0, none⟩) (Nat.le_refl _) (.int .i64 kd)).setCell (p := ⟨w.heap.size, 1, none⟩) (Nat.le_refl _) (.pointer (some ⟨w.heap.size + 1, 0, none⟩))
        clear hC hB hW hR hW1 hW2
        go_wp2
        refine bodyPost_ret (v := .agg #[.int .i64 kd, .pointer (some ⟨w.heap.size + 1, 0, none⟩)]) (by simp [results, Try.results42, go_sem, q4, q5]) rfl ⟨rfl, hR2, hB'⟩
  · go_enter Try.func42, Try.ntmps42
    go_wp2
    go_loopw [6, 18] (fun lst i wr => ∃ k : Nat, k + 1 ≤ n ∧ i = .int .i64 (k : Int) ∧ lst = .pointer (some ⟨w.heap.size + 1 + k, 0, none⟩) ∧ wr.heap.size = w.heap.size + 1 + k + 1 ∧ Chn wr (w.heap.size + 1) k (ofL zs) ∧ Wbx wr w.heap.size 0 none ∧ Below w.heap.size w wr) (fun _ i _ => n - (intOf i).toNat)
    case atStart => exact ⟨0, by omega, rfl, rfl, by simp, hS, hW, ((Below.refl _ w).alloc (Nat.le_refl _) _).alloc (by simp) _⟩
    case round =>
      clear hS h0 h0' hW
      obtain ⟨k, hk, rfl, rfl, hsz, hC, hW, hB⟩ := hrel
      have e1 := B2.c1 hC.2
      have e2 := B2.f1 hC.2
      by_cases hlt : k + 1 < n
      · have hc : wr.cell? ⟨g, 1 + k, none⟩ = some (.int .i64 (ofL zs (k + 1))) := (hB.cell (p := ⟨g, 1 + k, none⟩) hgl).trans (by rw [hcell.out (1 + k) (by omega), Nat.add_comm])
        have hc' : (wr.alloc (.cells #[.int .i64 (ofL zs (k + 1)), .pointer none] 76)).cell? ⟨w.heap.size + 1 + k, 1, none⟩ = some (.pointer none) := B2.c1 (B2.alloc hC.2 _)
        have hf' : (wr.alloc (.cells #[.int .i64 (ofL zs (k + 1)), .pointer none] 76)).frozen? ⟨w.heap.size + 1 + k, 1, none⟩ = false := B2.f1 (B2.alloc hC.2 _)
        have hC' := hC.step (by omega)
        rw [show w.heap.size + 1 + (k + 1) = wr.heap.size by omega] at hC'
        have hn' := B2.c1 (B2.set1 (B2.alloc hC.2 (.cells #[.int .i64 (ofL zs (k + 1)), .pointer none] 76)) (.pointer (some ⟨wr.heap.size, 0, none⟩)))
        have hW' := B2.other (B2.alloc hW (.cells #[.int .i64 (ofL zs (k + 1)), .pointer none] 76)) (a := ⟨w.heap.size + 1 + k, 1, none⟩) (by simp; omega) (.pointer (some ⟨wr.heap.size, 0, none⟩))
        have hB' := (hB.alloc hB.size (.cells #[.int .i64 (ofL zs (k + 1)), .pointer none] 76)).setCell (p := ⟨w.heap.size + 1 + k, 1, none⟩) (by simp; omega) (.pointer (some ⟨wr.heap.size, 0, none⟩))
        have HSZ := Lib.hid hsz
        clear hC hB hW hsz e1 e2
        go_wp2
        exact ⟨⟨k + 1, by omega, by go_num, by rw [HSZ.out]; rfl, by simp; have := HSZ.out; omega, hC', hW', hB'⟩, by simp [intOf]; omega⟩
      · obtain rfl : n = k + 1 := by omega
        have hR := hC.close
        have hW2 := B2.set1 (B2.set0 (B2.other hW (a := ⟨w.heap.size + 1 + k, 1, none⟩) (by simp; omega) (.pointer (some ⟨w.heap.size + 1, 0, none⟩))) (.int .i64 kd)) (.pointer (some ⟨w.heap.size + 1, 0, none⟩))
        have hW1 := B2.other hW (a := ⟨w.heap.size + 1 + k, 1, none⟩) (by simp; omega) (.pointer (some ⟨w.heap.size + 1, 0, none⟩))
        have q0 := B2.c0 hW1
        have q1 := B2.c1 hW1
        have q2 := B2.f0 hW1
        have q3 := B2.f1 hW1
        have q4 := B2.c0 hW2
        have q5 := B2.c1 hW2
        have hR2 := hR.same (W' := ((wr.setCell ⟨w.heap.size + 1 + k, 1, none⟩ (.pointer (some ⟨w.heap.size + 1, 0, none⟩))).setCell ⟨w.heap.size, 0, none⟩ (.int .i64 kd)).setCell ⟨w.heap.size, 1, none⟩ (.pointer (some ⟨w.heap.size + 1, 0, none⟩))) (fun j h1 h2 => (Below.heap_setCell _ _ _ _ (by simp; omega)).trans (Below.heap_setCell _ _ _ _ (by simp; omega)))
        have hB' := ((hB.setCell (p := ⟨w.heap.size + 1 + k, 1, none⟩) (by simp; omega) (.pointer (some ⟨w.heap.size + 1, 0, none⟩))).setCell (p := ⟨w.heap.size, 0, none⟩) (Nat.le_refl _) (.int .i64 kd)).setCell (p := ⟨w.heap.size, 1, none⟩) (Nat.le_refl _) (.pointer (some ⟨w.heap.size + 1, 0, none⟩))
        clear hC hB hW hR hW1 hW2
        go_wp2
        refine bodyPost_ret (v := .agg #[.int .i64 kd, .pointer (some ⟨w.heap.size + 1, 0, none⟩)]) (by simp [results, Try.results42, go_sem, q4, q5]) rfl ⟨rfl, hR2, hB'⟩
end

/-! (impl.way).steps and its closure: the steps of a way once round, by its contract; (impl.way).list. -/
section
open Go.RowKit Go.Shelf
attribute [local go_sem] Oper.semAt_some

/-- what a round gives: the address of step k of the ring at b -/
abbrev encS (b : Nat) {m : Nat} (k : Fin m) : Array Value := #[Value.pointer (some ⟨b + k.val, 0, none⟩)]
/-- what a round's body owes: the ring and the way's box lie as they lay -/
def Kr (b m wb : Nat) (W W' : World) : Prop := (∀ j, b ≤ j → j < b + m → W'.heap[j]? = W.heap[j]?) ∧ W'.heap[wb]? = W.heap[wb]?
theorem Kr_t {b m wb : Nat} {A B C : World} (h : Kr b m wb A B) (k : Kr b m wb B C) : Kr b m wb A C := ⟨fun j h1 h2 => (k.1 j h1 h2).trans (h.1 j h1 h2), k.2.trans h.2⟩
theorem Kr_b {b m wb : Nat} {w : World} (hb : b + m ≤ w.heap.size) (hwb : wb < w.heap.size) (W : World) (l : Nat) (o o' : Obj) (hl : w.heap.size ≤ l) (_ : W.heap[l]? = some o) (_ : o.isCells = false) (_ : o.isWalk = false) : Kr b m wb W (W.putObj l o') :=
  ⟨fun j _ h2 => World.putObj_heap_other (by omega), World.putObj_heap_other (by omega)⟩

set_option maxHeartbeats 8000000 in
theorem steps1_in (F : Fence) (q : Nat) (hf : F.fn 54) (hro : F.round = none) (hq : 1 ≤ q) (l b m wb : Nat) (hm : 1 ≤ m) (kd : Int) (P : Nat → Int) (J Jx : List (Fin m) → World → Prop)
    (hY : ∀ pre x W, J pre W → pre.length < m → YieldAt F (q - 1) Try.prog l (encS b x) W fun e W' =>
      (e = .returned (.bool true) ∧ J (pre ++ [x]) W' ∧ Kr b m wb W W') ∨ (e = .returned (.bool false) ∧ Jx (pre ++ [x]) W'))
    (hA : ∀ pre W, J pre W → J pre W.drew) (W : World) (hR : Ring W b m P) (hW : Wbx W wb kd (some ⟨b, 0, none⟩)) (h0 : J [] W) :
    CallsIn F q Try.prog 54 #[.func (.yield l) #[] #[], .pointer (some ⟨wb, 0, none⟩)] W fun e W' => (∃ v, e = .returned v) ∧
      ((∃ ys : List (Fin m), ys.map (·.val) = List.range m ∧ J ys W') ∨ (∃ pre : List (Fin m), True ∧ Jx pre W')) := by
  have hc := B2.c1 hW
  have hmx : Try.prog.follows .mixedOrders = true := by kernel_rfl
  refine callsIn_of_wp Try.func54 rfl hf ?_ hro
  simp only [Try.ntmps54, List.size_toArray, List.length_cons, List.length_nil, Nat.reduceAdd, Nat.reduceSub, Array.replicate_succ, Array.replicate_zero, List.push_toArray, List.append_toArray, List.nil_append, List.cons_append]
  gi_wp2
  gi_loopw [3] (fun s wr => ∃ (k : Nat) (pre : List (Fin m)), k < m ∧ s = .pointer (some ⟨b + k, 0, none⟩) ∧ pre.map (·.val) = List.range k ∧ J pre wr ∧ Ring wr b m P ∧ Wbx wr wb kd (some ⟨b, 0, none⟩)) (fun s _ => m + b - (match s with | .pointer (some a) => a.block | _ => 0))
  case atStart => exact ⟨0, [], by omega, rfl, rfl, h0, hR, hW⟩
  case round =>
    clear hR hW h0 hc
    obtain ⟨k, pre, hk, rfl, hpre, hJ, hR, hW⟩ := hrel
    have hlen : pre.length = k := by have := congrArg List.length hpre; simpa using this
    have HPRE : Hid ((pre ++ [(⟨k, hk⟩ : Fin m)]).map (·.val) = List.range (k + 1)) := by show _ = _; rw [List.map_append, hpre, List.range_succ]; rfl
    clear hpre
    obtain ⟨fn, tmps, assign, body, hy, hRd⟩ := hY pre ⟨k, hk⟩ wr.drew (hA _ _ hJ) (by omega)
    dsimp only [encS] at hy
    gi_wp2
    refine wpIn_region_any hmx ?_
    change wpAnyIn _ _ _ _ _ _ _ _ _ (World.drew _)
    refine wpAnyIn_take (i := 0) (v := .func (.yield l) #[] #[]) hro rfl (by kernel_rfl) (by kernel_rfl) (by kernel_rfl) (fun _ _ _ h => h) ⟨Or.inl ⟨by rfl, fun w => by go_simp⟩, fun _ => rfl⟩ ?_
    refine wpAnyIn_take (i := 1) (v := .pointer (some ⟨b + k, 0, none⟩)) hro rfl (by kernel_rfl) (by kernel_rfl) (by kernel_rfl) (fun _ _ _ h => h) ⟨Or.inl ⟨by rfl, fun w => by go_simp⟩, fun _ => rfl⟩ ?_
    refine wpAnyIn_ready (rs := [2]) (by kernel_rfl) (by simp) ?_
    refine AllReadyIn.cons rfl (fun K hK => ?_) AllReadyIn.nil
    go_simp
    gi_wp2
    refine hRd.mono ?_
    rintro e W3 (⟨rfl, hJ3, hk3⟩ | ⟨rfl, hJx3⟩)
    · gi_wp2
      have hR3 : Ring W3 b m P := hR.same (fun j h1 h2 => hk3.1 j h1 h2)
      have hW3 : Wbx W3 wb kd (some ⟨b, 0, none⟩) := B2.same hW hk3.2
      have q9 := B2.c1 hW3
      have q7 := B2.c1 (hR3 k hk)
      by_cases hlast : k + 1 = m
      · rw [if_pos hlast, Nat.add_zero] at q7
        subst hlast
        have h10 := run_neq_same ⟨b, 0, none⟩ W3
        refine wpAnyIn_take (i := 3) (v := .bool true) hro rfl (by kernel_rfl) (by kernel_rfl) (by kernel_rfl) (fun _ _ _ h => h) ⟨Or.inl ⟨by rfl, fun w => by go_simp⟩, fun _ => rfl⟩ ?_
        refine wpAnyIn_take (i := 4) (v := .pointer (some ⟨b + k, 0, none⟩)) hro rfl (by kernel_rfl) (by kernel_rfl) (by kernel_rfl) (fun _ _ _ h => h) ⟨Or.inl ⟨by rfl, fun w => by go_simp⟩, fun _ => rfl⟩ ?_
        refine wpAnyIn_take (i := 5) (v := .pointer (some ⟨b + k, 0, none⟩)) hro rfl (by kernel_rfl) (by kernel_rfl) (by kernel_rfl) (fun _ _ _ h => h) ⟨Or.inl ⟨by rfl, fun w => by go_simp⟩, fun _ => rfl⟩ ?_
        refine wpAnyIn_take (i := 6) (v := .pointer (some ⟨b + k, 1, none⟩)) hro rfl (by kernel_rfl) (by kernel_rfl) (by kernel_rfl) (fun _ _ _ h => h) ⟨Or.inl ⟨by rfl, fun w => by go_simp⟩, fun _ => rfl⟩ ?_
        refine wpAnyIn_take (i := 8) (v := .pointer (some ⟨wb, 1, none⟩)) hro rfl (by kernel_rfl) (by kernel_rfl) (by kernel_rfl) (fun _ _ _ h => h) ⟨Or.inl ⟨by rfl, fun w => by go_simp⟩, fun _ => rfl⟩ ?_
        refine wpAnyIn_ready (rs := [7, 9]) (by kernel_rfl) (by simp) (AllReadyIn.cons rfl (fun K hK => ?_) (AllReadyIn.cons rfl (fun K hK => ?_) AllReadyIn.nil))
        · go_simp
          refine hK _ _ ?_
          clear hK K
          refine wpAnyIn_ready (rs := [9]) (by kernel_rfl) (by simp) (AllReadyIn.cons rfl (fun K hK => ?_) AllReadyIn.nil)
          go_simp
          refine hK _ _ ?_
          clear hK K
          refine wpAnyIn_ready (rs := [10]) (by kernel_rfl) (by simp) (AllReadyIn.cons rfl (fun K hK => ?_) AllReadyIn.nil)
          go_simp
          refine hK _ _ ?_
          clear hK K
          refine wpAnyIn_take (i := 11) (v := .bool false) hro rfl (by kernel_rfl) (by kernel_rfl) (by kernel_rfl) (fun _ _ _ h => h) ⟨Or.inl ⟨by rfl, fun w => by go_simp⟩, fun _ => rfl⟩ ?_
          refine wpAnyIn_done (by kernel_rfl) ?_ _
          gi_wp2
          go_end0
          exact ⟨⟨_, rfl⟩, .inl ⟨_, HPRE.out, hJ3⟩⟩
        · go_simp
          refine hK _ _ ?_
          clear hK K
          refine wpAnyIn_ready (rs := [7]) (by kernel_rfl) (by simp) (AllReadyIn.cons rfl (fun K hK => ?_) AllReadyIn.nil)
          go_simp
          refine hK _ _ ?_
          clear hK K
          refine wpAnyIn_ready (rs := [10]) (by kernel_rfl) (by simp) (AllReadyIn.cons rfl (fun K hK => ?_) AllReadyIn.nil)
          go_simp
          refine hK _ _ ?_
          clear hK K
          refine wpAnyIn_take (i := 11) (v := .bool false) hro rfl (by kernel_rfl) (by kernel_rfl) (by kernel_rfl) (fun _ _ _ h => h) ⟨Or.inl ⟨by rfl, fun w => by go_simp⟩, fun _ => rfl⟩ ?_
          refine wpAnyIn_done (by kernel_rfl) ?_ _
          gi_wp2
          go_end0
          exact ⟨⟨_, rfl⟩, .inl ⟨_, HPRE.out, hJ3⟩⟩
      · rw [if_neg hlast] at q7
        have h10 := run_neq_other (a := ⟨b + (k + 1), 0, none⟩) (b := ⟨b, 0, none⟩) (by simp) (hR3 (k + 1) (by omega)) (hR3 0 (by omega))
        refine wpAnyIn_take (i := 3) (v := .bool true) hro rfl (by kernel_rfl) (by kernel_rfl) (by kernel_rfl) (fun _ _ _ h => h) ⟨Or.inl ⟨by rfl, fun w => by go_simp⟩, fun _ => rfl⟩ ?_
        refine wpAnyIn_take (i := 4) (v := .pointer (some ⟨b + k, 0, none⟩)) hro rfl (by kernel_rfl) (by kernel_rfl) (by kernel_rfl) (fun _ _ _ h => h) ⟨Or.inl ⟨by rfl, fun w => by go_simp⟩, fun _ => rfl⟩ ?_
        refine wpAnyIn_take (i := 5) (v := .pointer (some ⟨b + k, 0, none⟩)) hro rfl (by kernel_rfl) (by kernel_rfl) (by kernel_rfl) (fun _ _ _ h => h) ⟨Or.inl ⟨by rfl, fun w => by go_simp⟩, fun _ => rfl⟩ ?_
        refine wpAnyIn_take (i := 6) (v := .pointer (some ⟨b + k, 1, none⟩)) hro rfl (by kernel_rfl) (by kernel_rfl) (by kernel_rfl) (fun _ _ _ h => h) ⟨Or.inl ⟨by rfl, fun w => by go_simp⟩, fun _ => rfl⟩ ?_
        refine wpAnyIn_take (i := 8) (v := .pointer (some ⟨wb, 1, none⟩)) hro rfl (by kernel_rfl) (by kernel_rfl) (by kernel_rfl) (fun _ _ _ h => h) ⟨Or.inl ⟨by rfl, fun w => by go_simp⟩, fun _ => rfl⟩ ?_
        refine wpAnyIn_ready (rs := [7, 9]) (by kernel_rfl) (by simp) (AllReadyIn.cons rfl (fun K hK => ?_) (AllReadyIn.cons rfl (fun K hK => ?_) AllReadyIn.nil))
        · go_simp
          refine hK _ _ ?_
          clear hK K
          refine wpAnyIn_ready (rs := [9]) (by kernel_rfl) (by simp) (AllReadyIn.cons rfl (fun K hK => ?_) AllReadyIn.nil)
          go_simp
          refine hK _ _ ?_
          clear hK K
          refine wpAnyIn_ready (rs := [10]) (by kernel_rfl) (by simp) (AllReadyIn.cons rfl (fun K hK => ?_) AllReadyIn.nil)
          go_simp
          refine hK _ _ ?_
          clear hK K
          refine wpAnyIn_take (i := 11) (v := .bool true) hro rfl (by kernel_rfl) (by kernel_rfl) (by kernel_rfl) (fun _ _ _ h => h) ⟨Or.inl ⟨by rfl, fun w => by go_simp⟩, fun _ => rfl⟩ ?_
          refine wpAnyIn_done (by kernel_rfl) ?_ _
          gi_wp2
          go_roundw
          case rel => exact ⟨k + 1, _, by omega, rfl, HPRE.out, hJ3, hR3, hW3⟩
          case measure => simp; omega
        · go_simp
          refine hK _ _ ?_
          clear hK K
          refine wpAnyIn_ready (rs := [7]) (by kernel_rfl) (by simp) (AllReadyIn.cons rfl (fun K hK => ?_) AllReadyIn.nil)
          go_simp
          refine hK _ _ ?_
          clear hK K
          refine wpAnyIn_ready (rs := [10]) (by kernel_rfl) (by simp) (AllReadyIn.cons rfl (fun K hK => ?_) AllReadyIn.nil)
          go_simp
          refine hK _ _ ?_
          clear hK K
          refine wpAnyIn_take (i := 11) (v := .bool true) hro rfl (by kernel_rfl) (by kernel_rfl) (by kernel_rfl) (fun _ _ _ h => h) ⟨Or.inl ⟨by rfl, fun w => by go_simp⟩, fun _ => rfl⟩ ?_
          refine wpAnyIn_done (by kernel_rfl) ?_ _
          gi_wp2
          go_roundw
          case rel => exact ⟨k + 1, _, by omega, rfl, HPRE.out, hJ3, hR3, hW3⟩
          case measure => simp; omega
    · gi_wp2
      refine wpAnyIn_take (i := 3) (v := .bool false) hro rfl (by kernel_rfl) (by kernel_rfl) (by kernel_rfl) (fun _ _ _ h => h) ⟨Or.inl ⟨by rfl, fun w => by go_simp⟩, fun _ => rfl⟩ ?_
      refine wpAnyIn_take (i := 4) (v := undef) hro rfl (by kernel_rfl) (by kernel_rfl) (by kernel_rfl) (fun _ _ _ h => h) ⟨Or.inr ⟨by rfl, rfl⟩, fun _ => rfl⟩ ?_
      refine wpAnyIn_take (i := 5) (v := undef) hro rfl (by kernel_rfl) (by kernel_rfl) (by kernel_rfl) (fun _ _ _ h => h) ⟨Or.inr ⟨by rfl, rfl⟩, fun _ => rfl⟩ ?_
      refine wpAnyIn_take (i := 6) (v := undef) hro rfl (by kernel_rfl) (by kernel_rfl) (by kernel_rfl) (fun _ _ _ h => h) ⟨Or.inr ⟨by rfl, rfl⟩, fun _ => rfl⟩ ?_
      refine wpAnyIn_take (i := 7) (v := undef) hro rfl (by kernel_rfl) (by kernel_rfl) (by kernel_rfl) (fun _ _ _ h => h) ⟨Or.inr ⟨by rfl, rfl⟩, fun _ => rfl⟩ ?_
      refine wpAnyIn_take (i := 8) (v := undef) hro rfl (by kernel_rfl) (by kernel_rfl) (by kernel_rfl) (fun _ _ _ h => h) ⟨Or.inr ⟨by rfl, rfl⟩, fun _ => rfl⟩ ?_
      refine wpAnyIn_take (i := 9) (v := undef) hro rfl (by kernel_rfl) (by kernel_rfl) (by kernel_rfl) (fun _ _ _ h => h) ⟨Or.inr ⟨by rfl, rfl⟩, fun _ => rfl⟩ ?_
      refine wpAnyIn_take (i := 10) (v := undef) hro rfl (by kernel_rfl) (by kernel_rfl) (by kernel_rfl) (fun _ _ _ h => h) ⟨Or.inr ⟨by rfl, rfl⟩, fun _ => rfl⟩ ?_
      refine wpAnyIn_ready (rs := [11]) (by kernel_rfl) (by simp) (AllReadyIn.cons rfl (fun K hK => ?_) AllReadyIn.nil)
      go_simp
      refine hK _ _ ?_
      clear hK K
      refine wpAnyIn_done (by kernel_rfl) ?_ _
      gi_wp2
      go_end0
      exact ⟨⟨_, rfl⟩, .inr ⟨_, trivial, hJx3⟩⟩

set_option maxHeartbeats 1000000 in
/-- w.steps(): the way is boxed; the function value captures the box -/
theorem steps_in (F : Fence) (q : Nat) (hf : F.fn 44) (hro : F.round = none) (kd : Int) (fp : Option Addr) (w : World) :
    CallsIn F q Try.prog 44 #[.agg #[.int .i64 kd, .pointer fp]] w fun e w' => e = .returned (.func (.func 54) #[] #[.pointer (some ⟨w.heap.size, 0, none⟩)]) ∧ w' = w.alloc (.cells #[.int .i64 kd, .pointer fp] 58) := by
  refine callsIn_of_wp Try.func44 rfl hf ?_ hro
  simp only [Try.ntmps44, List.size_toArray, List.length_cons, List.length_nil, Nat.reduceAdd, Nat.reduceSub, Array.replicate_succ, Array.replicate_zero, List.push_toArray, List.append_toArray, List.nil_append, List.cons_append]
  gi_wp2
  go_ret
  exact ⟨rfl, rfl⟩

/-- what w.steps() hands back gives the steps once round -/
theorem steps_stops (F : Fence) (q : Nat) (hf : F.fn 54) (hro : F.round = none) (hq : 1 ≤ q) (b m wb : Nat) (hm : 1 ≤ m) (kd : Int) (P : Nat → Int) (w : World) (hR : Ring w b m P) (hW : Wbx w wb kd (some ⟨b, 0, none⟩)) :
    SeqStopsK F q Try.prog 54 #[.pointer (some ⟨wb, 0, none⟩)] (encS b (m := m)) (Kr b m wb) (fun ys => ys.map (·.val) = List.range m) (fun _ => True) m w := fun l J Jx W hB hA _ hY h0 =>
  steps1_in F q hf hro hq l b m wb hm kd P J Jx hY (fun pre V hJ => hA pre V V.drew none hJ ⟨rfl, rfl, rfl, Nat.le_refl _, fun _ _ _ => rfl⟩ (fun _ e => by cases e)) W (hR.below hB (hR.lt hm)) (B2.below hW hB (B2.lt hW)) h0
end

/-! (impl.way).list: the points of a way. -/
section
open Go.RowKit Go.Shelf
attribute [local go_sem] Oper.semAt_some

/-- what lies behind 'list = append(list, s.point)' -/
theorem slist_fin {w W w1 : World} {b m wb n0 : Nat} {kd : Int} {fp : Option Addr} {v v' : Value} {k : Nat} {L : List Int} {z : Int} {tmp : Obj} (hn0 : n0 = w.heap.size) (hbm : b + m ≤ n0) (hwb : wb ≠ n0 + 1)
    (hv : Boxed W (n0 + 1) 24 v) (hr : W.ownsRow n0 3 1 v k (ivs L)) (hV : Wbx W wb kd fp) (hB : Below n0 w W)
    (hown' : w1.ownsRow n0 3 1 v' (k + 1) (ivs L ++ [.int .i64 z])) (hgrow : (W.drew.alloc tmp).grownBy w1 v.ownBlock) :
    w1.cell? ⟨n0 + 1, 0, none⟩ = some v ∧ w1.frozen? ⟨n0 + 1, 0, none⟩ = false ∧ KeepsOthers W (w1.setCell ⟨n0 + 1, 0, none⟩ v') ∧ Kr b m wb W (w1.setCell ⟨n0 + 1, 0, none⟩ v') ∧
      Boxed (w1.setCell ⟨n0 + 1, 0, none⟩ v') (n0 + 1) 24 v' ∧ (w1.setCell ⟨n0 + 1, 0, none⟩ v').ownsRow n0 3 1 v' (k + 1) (ivs (L ++ [z])) ∧ Wbx (w1.setCell ⟨n0 + 1, 0, none⟩ v') wb kd fp ∧ Below n0 w (w1.setCell ⟨n0 + 1, 0, none⟩ v') := by
  have hA := Boxed.appended (W := W.drew) (tmp := tmp) (ys := ivs L ++ [.int .i64 z]) hv (by decide) hr (by have := hB.size; show n0 ≤ W.heap.size; omega) (by omega) hown' hgrow
  have hne : some wb ≠ v.ownBlock := by
    rcases hr.2 with ⟨rfl, _⟩ | ⟨g, cap, cur, rfl, _, hgb, _⟩
    · simp [Value.ownBlock]
    · intro e'
      obtain rfl : wb = g := by simpa [Value.ownBlock] using e'
      have := (show W.heap[wb]? = _ from hV).symm.trans hgb
      simp at this
  have hk : (w1.setCell ⟨n0 + 1, 0, none⟩ v').heap[wb]? = W.heap[wb]? := by
    refine (Below.heap_setCell _ _ _ _ (by simpa using hwb)).trans ?_
    refine (hgrow.block wb (by have := B2.lt hV; simp; omega) hne).trans ?_
    exact (World.grownBy_alloc W.drew tmp none).block wb (B2.lt hV) (by simp)
  have hA5 := hA.2.2.2.2
  have hA4 := hA.2.2.2.1
  have hB5 : Below n0 W (w1.setCell ⟨n0 + 1, 0, none⟩ v') := ⟨hA5.os, hA5.tape, hA5.output, hA5.size, hA5.block⟩
  have hK4 : KeepsOthers W (w1.setCell ⟨n0 + 1, 0, none⟩ v') := ⟨hA4.size, hA4.same⟩
  refine ⟨hA.1.cell, hA.1.frozen, hK4, ⟨fun j _ h2 => hB5.block j (by omega), hk⟩, hA.2.1, ?_, hV.same hk, hB.trans hB5⟩
  have := hA.2.2.1
  rwa [ivs_snoc] at this

theorem wbx_own {β : Type} (wb : Nat) (t : TypeId) (u v : Value) : Own (fun (_ : β) W => B2 W wb t u v) := fun s X Y row hs hg hrow =>
  hs.same (grownBy_keeps_cells hg hrow hs rfl)

set_option maxHeartbeats 8000000 in
theorem wayList_any (kd : Int) (b m : Nat) (P : Nat → Int) (hm : 1 ≤ m) (hm6 : m ≤ 1048576) (w : World) (hR : Ring w b m P) :
    Calls Try.prog 34 #[.agg #[.int .i64 kd, .pointer (some ⟨b, 0, none⟩)]] w fun e w' => ∃ v, e = .returned v ∧ NewL w (LT m P) v w' := by
  obtain ⟨i0, hi, hz0, hz1, hz2⟩ := info_parts info_int
  have hmx : Try.prog.follows .mixedOrders = true := by kernel_rfl
  have hb := hR.lt hm
  refine (callsIn_wide (n := 3)).1 ?_
  refine callsIn_of_wp_marks Try.func34 rfl trivial ?_ rfl
  simp only [Try.ntmps34, List.size_toArray, List.length_cons, List.length_nil, Nat.reduceAdd, Nat.reduceSub, Array.replicate_succ, Array.replicate_zero, List.push_toArray, List.append_toArray, List.nil_append, List.cons_append]
  gi_wp2_with fail
  refine ⟨trivial, (steps_in Fence.wide 2 trivial rfl _ _ _).mono ?_⟩
  rintro e w2 ⟨rfl, rfl⟩
  have hV := (B2.new w 58 (.int .i64 kd) (.pointer (some ⟨b, 0, none⟩)))
  have bO := (Boxed.new (w.alloc (.cells #[.int .i64 kd, .pointer (some ⟨b, 0, none⟩)] 58)) 24 (.slice none 0 0)).alloc (.cells #[.int .i64 kd, .pointer (some ⟨b, 0, none⟩)] 58)
  have hW := B2.new ((w.alloc (.cells #[.int .i64 kd, .pointer (some ⟨b, 0, none⟩)] 58)).alloc (.cells #[.slice none 0 0] 24)) 58 (.int .i64 kd) (.pointer (some ⟨b, 0, none⟩))
  simp only [World.size_alloc] at bO hW
  have hB0 : Below w.heap.size w (((w.alloc (.cells #[.int .i64 kd, .pointer (some ⟨b, 0, none⟩)] 58)).alloc (.cells #[.slice none 0 0] 24)).alloc (.cells #[.int .i64 kd, .pointer (some ⟨b, 0, none⟩)] 58)) := (((Below.refl _ w).alloc (Nat.le_refl _) _).alloc (by simp) _).alloc (by simp <;> omega) _
  have hR0 := hR.below hB0 hb
  gi_wp2
  refine wpIn_rangeFunc_ownG rfl (by omega) (gf := 54) (lb := #[.pointer (some ⟨w.heap.size + 1 + 1, 0, none⟩)]) rfl trivial (enters_of Try.func54 (by kernel_rfl) rfl)
    (steps_stops Fence.wide 2 trivial rfl (by omega) b m (w.heap.size + 1 + 1) hm kd P _ hR0 hW) Kr_t (Kr_b (by simp; omega) (by simp)) (Below.refl _ _) (fun _ => rfl)
    (fun (pre : List (Fin m)) W => ((∃ v, Boxed W (w.heap.size + 1) 24 v ∧ W.ownsRow w.heap.size 3 1 v pre.length (ivs (pre.map (fun x => P x.val))) ∧ True) ∧ Wbx W (w.heap.size + 1 + 1) kd (some ⟨b, 0, none⟩)) ∧ Below w.heap.size w W)
    (fun _ _ _ => False)
    (OwnFrom.and (OwnFrom.and (Own.from (holdsRow_own w.heap.size (w.heap.size + 1) 24 3 1 (fun pre : List (Fin m) => pre.length) (fun pre => ivs (pre.map (fun x => P x.val))) (fun _ _ => True)) _) (Own.from (wbx_own _ _ _ _) _)) (ownFrom_below (Nat.le_refl _) (by simp <;> omega)))
    (fun _ _ _ _ _ hs _ _ => hs)
    ⟨⟨⟨_, bO, World.ownsRow_nil _ _ _ _, trivial⟩, hW⟩, hB0⟩
    (fun x => { tmps := #[.agg #[.int .i64 kd, .pointer (some ⟨b, 0, none⟩)], .pointer (some ⟨w.heap.size, 0, none⟩), .slice none 0 0, .pointer (some ⟨w.heap.size + 1, 0, none⟩), .pointer (some ⟨b + x.val, 0, none⟩), .agg #[.int .i64 kd, .pointer (some ⟨b, 0, none⟩)],
      .func (.func 54) #[] #[.pointer (some ⟨w.heap.size + 1 + 1, 0, none⟩)], .pointer (some ⟨b + x.val, 0, none⟩), undef, undef, undef, undef, undef, undef, undef, undef], defers := [] }) ?assign ?body ?done ?stop
  case assign =>
    intro l x W K hK
    gi_wp2
    exact hK
  case body =>
    rintro l pre x W ⟨⟨⟨v, hv, hr, _⟩, hVb⟩, hB⟩ hlen
    have hx := (hR.below hB hb) x.val x.isLt
    have q4 := B2.c0 hx
    have q0 := hv.cell
    have q0' := (hv.alloc (.cells #[.int .i64 (P x.val)] 3)).cell
    have h1 : pre.length + 1 ≤ maxLen := by unfold maxLen; omega
    have h2 : (pre.length + 1) * 8 ≤ 140737488355328 := by omega
    have h3 : w.heap.size ≤ (W.drew.alloc (.cells #[.int .i64 (P x.val)] 3)).heap.size := by have := hB.size; simp; omega
    have hr3 : (W.drew.alloc (.cells #[.int .i64 (P x.val)] 3)).ownsRow w.heap.size 3 1 v pre.length (ivs (pre.map (fun x => P x.val))) := World.ownsRow.alloc (w := W.drew) hr _
    clear hx
    gi_wp2
    refine wpIn_region_any hmx ?_
    change wpAnyIn _ _ _ _ _ _ _ _ _ (World.drew _)
    refine wpAnyIn_ready (rs := [0, 1]) (by kernel_rfl) (by simp) (AllReadyIn.cons rfl (fun K hK => ?_) (AllReadyIn.cons rfl (fun K hK => ?_) AllReadyIn.nil))
    · go_simp
      refine hK _ _ ?_
      clear hK K
      refine wpAnyIn_ready (rs := [1]) (by kernel_rfl) (by simp) (AllReadyIn.cons rfl (fun K hK => ?_) AllReadyIn.nil)
      go_simp
      refine hK _ _ ?_
      clear hK K
      refine wpAnyIn_ready (rs := [2]) (by kernel_rfl) (by simp) (AllReadyIn.cons rfl (fun K hK => ?_) AllReadyIn.nil)
      go_simp
      refine hK _ _ ?_
      clear hK K
      refine wpAnyIn_ready (rs := [3]) (by kernel_rfl) (by simp) (AllReadyIn.cons rfl (fun K hK => ?_) AllReadyIn.nil)
      go_simp
      refine hK _ _ ?_
      clear hK K
      refine wpAnyIn_ready (rs := [4]) (by kernel_rfl) (by simp) (AllReadyIn.cons rfl (fun K hK => ?_) AllReadyIn.nil)
      go_simp
      refine hK _ _ ?_
      clear hK K
      refine wpAnyIn_ready (rs := [5]) (by kernel_rfl) (by simp) (AllReadyIn.cons rfl (fun K hK => ?_) AllReadyIn.nil)
      go_simp
      refine hK _ _ ?_
      clear hK K
      refine wpAnyIn_ready (rs := [6]) (by kernel_rfl) (by simp) (AllReadyIn.cons rfl (fun K hK => ?_) AllReadyIn.nil)
      refine step_append_own_in _ rfl _ _ 24 rfl w.heap.size 3 i0 (.int .i64 0) 1 8 Try.underlying24 hi hz0 hz1 hz2 rfl (by decide) _ _ _ rfl hr3 ⟨W.heap.size, 0, none⟩ 1 1 [.int .i64 (P x.val)] rfl rfl (cell_one_new _ _ _) (by simp [Value.oneCell']) h1 h2 h3 ?_
      intro v' w1 hown' hgrow _
      have hF := slist_fin (w := w) (b := b) (m := m) rfl hb (by omega) hv hr hVb hB hown' hgrow
      obtain ⟨g', c', rfl⟩ := ownsRow_succ hown'
      obtain ⟨f0, f1, f2, f3, f4, f5, f6, f7⟩ := hF
      refine hK _ _ ?_
      clear hK K
      refine wpAnyIn_ready (rs := [7]) (by kernel_rfl) (by simp) (AllReadyIn.cons rfl (fun K hK => ?_) AllReadyIn.nil)
      go_simp
      refine hK _ _ ?_
      clear hK K
      refine wpAnyIn_done (by kernel_rfl) ?_ _
      exact ⟨f2.from _, f3, ⟨⟨⟨_, f4, by rw [List.length_append, List.map_append]; exact f5, trivial⟩, f6⟩, f7⟩⟩
    · go_simp
      refine hK _ _ ?_
      clear hK K
      refine wpAnyIn_ready (rs := [0, 2]) (by kernel_rfl) (by simp) (AllReadyIn.cons rfl (fun K hK => ?_) (AllReadyIn.cons rfl (fun K hK => ?_) AllReadyIn.nil))
      · go_simp
        refine hK _ _ ?_
        clear hK K
        refine wpAnyIn_ready (rs := [2]) (by kernel_rfl) (by simp) (AllReadyIn.cons rfl (fun K hK => ?_) AllReadyIn.nil)
        go_simp
        refine hK _ _ ?_
        clear hK K
        refine wpAnyIn_ready (rs := [3]) (by kernel_rfl) (by simp) (AllReadyIn.cons rfl (fun K hK => ?_) AllReadyIn.nil)
        go_simp
        refine hK _ _ ?_
        clear hK K
        refine wpAnyIn_ready (rs := [4]) (by kernel_rfl) (by simp) (AllReadyIn.cons rfl (fun K hK => ?_) AllReadyIn.nil)
        go_simp
        refine hK _ _ ?_
        clear hK K
        refine wpAnyIn_ready (rs := [5]) (by kernel_rfl) (by simp) (AllReadyIn.cons rfl (fun K hK => ?_) AllReadyIn.nil)
        go_simp
        refine hK _ _ ?_
        clear hK K
        refine wpAnyIn_ready (rs := [6]) (by kernel_rfl) (by simp) (AllReadyIn.cons rfl (fun K hK => ?_) AllReadyIn.nil)
        refine step_append_own_in _ rfl _ _ 24 rfl w.heap.size 3 i0 (.int .i64 0) 1 8 Try.underlying24 hi hz0 hz1 hz2 rfl (by decide) _ _ _ rfl hr3 ⟨W.heap.size, 0, none⟩ 1 1 [.int .i64 (P x.val)] rfl rfl (cell_one_new _ _ _) (by simp [Value.oneCell']) h1 h2 h3 ?_
        intro v' w1 hown' hgrow _
        have hF := slist_fin (w := w) (b := b) (m := m) rfl hb (by omega) hv hr hVb hB hown' hgrow
        obtain ⟨g', c', rfl⟩ := ownsRow_succ hown'
        obtain ⟨f0, f1, f2, f3, f4, f5, f6, f7⟩ := hF
        refine hK _ _ ?_
        clear hK K
        refine wpAnyIn_ready (rs := [7]) (by kernel_rfl) (by simp) (AllReadyIn.cons rfl (fun K hK => ?_) AllReadyIn.nil)
        go_simp
        refine hK _ _ ?_
        clear hK K
        refine wpAnyIn_done (by kernel_rfl) ?_ _
        exact ⟨f2.from _, f3, ⟨⟨⟨_, f4, by rw [List.length_append, List.map_append]; exact f5, trivial⟩, f6⟩, f7⟩⟩
      · go_simp
        refine hK _ _ ?_
        clear hK K
        refine wpAnyIn_ready (rs := [0, 3]) (by kernel_rfl) (by simp) (AllReadyIn.cons rfl (fun K hK => ?_) (AllReadyIn.cons rfl (fun K hK => ?_) AllReadyIn.nil))
        · go_simp
          refine hK _ _ ?_
          clear hK K
          refine wpAnyIn_ready (rs := [3]) (by kernel_rfl) (by simp) (AllReadyIn.cons rfl (fun K hK => ?_) AllReadyIn.nil)
          go_simp
          refine hK _ _ ?_
          clear hK K
          refine wpAnyIn_ready (rs := [4]) (by kernel_rfl) (by simp) (AllReadyIn.cons rfl (fun K hK => ?_) AllReadyIn.nil)
          go_simp
          refine hK _ _ ?_
          clear hK K
          refine wpAnyIn_ready (rs := [5]) (by kernel_rfl) (by simp) (AllReadyIn.cons rfl (fun K hK => ?_) AllReadyIn.nil)
          go_simp
          refine hK _ _ ?_
          clear hK K
          refine wpAnyIn_ready (rs := [6]) (by kernel_rfl) (by simp) (AllReadyIn.cons rfl (fun K hK => ?_) AllReadyIn.nil)
          refine step_append_own_in _ rfl _ _ 24 rfl w.heap.size 3 i0 (.int .i64 0) 1 8 Try.underlying24 hi hz0 hz1 hz2 rfl (by decide) _ _ _ rfl hr3 ⟨W.heap.size, 0, none⟩ 1 1 [.int .i64 (P x.val)] rfl rfl (cell_one_new _ _ _) (by simp [Value.oneCell']) h1 h2 h3 ?_
          intro v' w1 hown' hgrow _
          have hF := slist_fin (w := w) (b := b) (m := m) rfl hb (by omega) hv hr hVb hB hown' hgrow
          obtain ⟨g', c', rfl⟩ := ownsRow_succ hown'
          obtain ⟨f0, f1, f2, f3, f4, f5, f6, f7⟩ := hF
          refine hK _ _ ?_
          clear hK K
          refine wpAnyIn_ready (rs := [7]) (by kernel_rfl) (by simp) (AllReadyIn.cons rfl (fun K hK => ?_) AllReadyIn.nil)
          go_simp
          refine hK _ _ ?_
          clear hK K
          refine wpAnyIn_done (by kernel_rfl) ?_ _
          exact ⟨f2.from _, f3, ⟨⟨⟨_, f4, by rw [List.length_append, List.map_append]; exact f5, trivial⟩, f6⟩, f7⟩⟩
        · go_simp
          refine hK _ _ ?_
          clear hK K
          refine wpAnyIn_ready (rs := [0, 4]) (by kernel_rfl) (by simp) (AllReadyIn.cons rfl (fun K hK => ?_) (AllReadyIn.cons rfl (fun K hK => ?_) AllReadyIn.nil))
          · go_simp
            refine hK _ _ ?_
            clear hK K
            refine wpAnyIn_ready (rs := [4]) (by kernel_rfl) (by simp) (AllReadyIn.cons rfl (fun K hK => ?_) AllReadyIn.nil)
            go_simp
            refine hK _ _ ?_
            clear hK K
            refine wpAnyIn_ready (rs := [5]) (by kernel_rfl) (by simp) (AllReadyIn.cons rfl (fun K hK => ?_) AllReadyIn.nil)
            go_simp
            refine hK _ _ ?_
            clear hK K
            refine wpAnyIn_ready (rs := [6]) (by kernel_rfl) (by simp) (AllReadyIn.cons rfl (fun K hK => ?_) AllReadyIn.nil)
            refine step_append_own_in _ rfl _ _ 24 rfl w.heap.size 3 i0 (.int .i64 0) 1 8 Try.underlying24 hi hz0 hz1 hz2 rfl (by decide) _ _ _ rfl hr3 ⟨W.heap.size, 0, none⟩ 1 1 [.int .i64 (P x.val)] rfl rfl (cell_one_new _ _ _) (by simp [Value.oneCell']) h1 h2 h3 ?_
            intro v' w1 hown' hgrow _
            have hF := slist_fin (w := w) (b := b) (m := m) rfl hb (by omega) hv hr hVb hB hown' hgrow
            obtain ⟨g', c', rfl⟩ := ownsRow_succ hown'
            obtain ⟨f0, f1, f2, f3, f4, f5, f6, f7⟩ := hF
            refine hK _ _ ?_
            clear hK K
            refine wpAnyIn_ready (rs := [7]) (by kernel_rfl) (by simp) (AllReadyIn.cons rfl (fun K hK => ?_) AllReadyIn.nil)
            go_simp
            refine hK _ _ ?_
            clear hK K
            refine wpAnyIn_done (by kernel_rfl) ?_ _
            exact ⟨f2.from _, f3, ⟨⟨⟨_, f4, by rw [List.length_append, List.map_append]; exact f5, trivial⟩, f6⟩, f7⟩⟩
          · go_simp
            refine hK _ _ ?_
            clear hK K
            refine wpAnyIn_ready (rs := [0, 5]) (by kernel_rfl) (by simp) (AllReadyIn.cons rfl (fun K hK => ?_) (AllReadyIn.cons rfl (fun K hK => ?_) AllReadyIn.nil))
            · go_simp
              refine hK _ _ ?_
              clear hK K
              refine wpAnyIn_ready (rs := [5]) (by kernel_rfl) (by simp) (AllReadyIn.cons rfl (fun K hK => ?_) AllReadyIn.nil)
              go_simp
              refine hK _ _ ?_
              clear hK K
              refine wpAnyIn_ready (rs := [6]) (by kernel_rfl) (by simp) (AllReadyIn.cons rfl (fun K hK => ?_) AllReadyIn.nil)
              refine step_append_own_in _ rfl _ _ 24 rfl w.heap.size 3 i0 (.int .i64 0) 1 8 Try.underlying24 hi hz0 hz1 hz2 rfl (by decide) _ _ _ rfl hr3 ⟨W.heap.size, 0, none⟩ 1 1 [.int .i64 (P x.val)] rfl rfl (cell_one_new _ _ _) (by simp [Value.oneCell']) h1 h2 h3 ?_
              intro v' w1 hown' hgrow _
              have hF := slist_fin (w := w) (b := b) (m := m) rfl hb (by omega) hv hr hVb hB hown' hgrow
              obtain ⟨g', c', rfl⟩ := ownsRow_succ hown'
              obtain ⟨f0, f1, f2, f3, f4, f5, f6, f7⟩ := hF
              refine hK _ _ ?_
              clear hK K
              refine wpAnyIn_ready (rs := [7]) (by kernel_rfl) (by simp) (AllReadyIn.cons rfl (fun K hK => ?_) AllReadyIn.nil)
              go_simp
              refine hK _ _ ?_
              clear hK K
              refine wpAnyIn_done (by kernel_rfl) ?_ _
              exact ⟨f2.from _, f3, ⟨⟨⟨_, f4, by rw [List.length_append, List.map_append]; exact f5, trivial⟩, f6⟩, f7⟩⟩
            · go_simp
              refine hK _ _ ?_
              clear hK K
              refine wpAnyIn_ready (rs := [0]) (by kernel_rfl) (by simp) (AllReadyIn.cons rfl (fun K hK => ?_) AllReadyIn.nil)
              go_simp
              refine hK _ _ ?_
              clear hK K
              refine wpAnyIn_ready (rs := [6]) (by kernel_rfl) (by simp) (AllReadyIn.cons rfl (fun K hK => ?_) AllReadyIn.nil)
              refine step_append_own_in _ rfl _ _ 24 rfl w.heap.size 3 i0 (.int .i64 0) 1 8 Try.underlying24 hi hz0 hz1 hz2 rfl (by decide) _ _ _ rfl hr3 ⟨W.heap.size, 0, none⟩ 1 1 [.int .i64 (P x.val)] rfl rfl (cell_one_new _ _ _) (by simp [Value.oneCell']) h1 h2 h3 ?_
              intro v' w1 hown' hgrow _
              have hF := slist_fin (w := w) (b := b) (m := m) rfl hb (by omega) hv hr hVb hB hown' hgrow
              obtain ⟨g', c', rfl⟩ := ownsRow_succ hown'
              obtain ⟨f0, f1, f2, f3, f4, f5, f6, f7⟩ := hF
              refine hK _ _ ?_
              clear hK K
              refine wpAnyIn_ready (rs := [7]) (by kernel_rfl) (by simp) (AllReadyIn.cons rfl (fun K hK => ?_) AllReadyIn.nil)
              go_simp
              refine hK _ _ ?_
              clear hK K
              refine wpAnyIn_done (by kernel_rfl) ?_ _
              exact ⟨f2.from _, f3, ⟨⟨⟨_, f4, by rw [List.length_append, List.map_append]; exact f5, trivial⟩, f6⟩, f7⟩⟩
  case done =>
    rintro D ys W hD hys ⟨⟨⟨v, hv, hr, _⟩, hVb⟩, hB⟩ hK
    have q0 := hv.cell
    have hlen : ys.length = m := by have := congrArg List.length hys; simpa using this
    have HL : Hid (ys.map (fun x => P x.val) = LT m P) := by
      show _ = _
      unfold LT; rw [← hys, List.map_map]; rfl
    have hr2 := ownsRow_putObj hr (.deferred none) hK rfl
    obtain ⟨m', rfl⟩ : ∃ m', m = m' + 1 := ⟨m - 1, by omega⟩
    rw [hlen] at hr hr2
    obtain ⟨g', c', rfl⟩ := ownsRow_succ hr
    gi_wp2
    refine ⟨by simp, .inl ⟨_, _, rfl, run_takeDeferred hK, ?_⟩⟩
    refine ⟨_, results_tmp rfl _ _ _, _, rfl, ?_, hB.trans (belowK_b (w := w) (Nat.le_refl _) W D _ _ (by simp at hD; omega) hK rfl rfl)⟩
    rw [LT_length, ← HL.out]; exact hr2
  case stop =>
    rintro D c pre W _ _ h _
    exact h.elim
end

/-! (impl.chart).starts, (impl.chart).wayFrom. -/
section
open Go.RowKit

/-- two lists of numbers that the call owns, apart -/
structure Duo (W : World) (base : Nat) (v1 v2 : Value) (L1 L2 : List Int) : Prop where
  o1 : W.ownsRow base 3 1 v1 L1.length (ivs L1)
  o2 : W.ownsRow base 3 1 v2 L2.length (ivs L2)
  ap : ∀ g, v1.ownBlock = some g → v2.ownBlock = some g → False
theorem Duo.swap {W : World} {base : Nat} {v1 v2 : Value} {L1 L2 : List Int} (h : Duo W base v1 v2 L1 L2) : Duo W base v2 v1 L2 L1 := ⟨h.o2, h.o1, fun g a b => h.ap g b a⟩
theorem Duo.app {W w1 : World} {base : Nat} {v1 v2 v' : Value} {L1 L2 : List Int} {z : Int} {o : Obj} (h : Duo W base v1 v2 L1 L2)
    (hown' : w1.ownsRow base 3 1 v' (L1.length + 1) (ivs L1 ++ [.int .i64 z])) (hgrow : (W.alloc o).grownBy w1 v1.ownBlock) (hat : v'.ownBlock = v1.ownBlock ∨ v'.ownBlock = some (W.alloc o).heap.size) : Duo w1 base v' v2 (L1 ++ [z]) L2 := by
  have hne : v2.ownBlock = none ∨ v2.ownBlock ≠ v1.ownBlock := by
    cases h2 : v2.ownBlock with
    | none => exact .inl rfl
    | some g => exact .inr (fun e => h.ap g e.symm h2)
  refine ⟨?_, (h.o2.alloc o).kept hgrow hne, fun g hg hg2 => ?_⟩
  · rw [← ivs_snoc, List.length_append]; exact hown'
  · rcases hat with e | e
    · exact h.ap g (e ▸ hg) hg2
    · rw [e] at hg
      have := (h.o2.lt g hg2).2
      simp at hg
      omega
theorem Duo.below {W W' : World} {base : Nat} {v1 v2 : Value} {L1 L2 : List Int} (h : Duo W base v1 v2 L1 L2) (hb : Below W.heap.size W W') : Duo W' base v1 v2 L1 L2 := ⟨own_below h.o1 hb, own_below h.o2 hb, h.ap⟩
/-- numbers as places -/
def nI (L : List Nat) : List Int := L.map (fun (i : Nat) => (i : Int))
theorem nI_append (L M : List Nat) : nI (L ++ M) = nI L ++ nI M := by simp [nI]
theorem nI_length (L : List Nat) : (nI L).length = L.length := by simp [nI]
theorem below_grow {w W w1 : World} {base n : Nat} {v : Value} {e : TypeId} {xs : List Value} {o : Obj} (hB : Below w.heap.size w W) (hown : W.ownsRow base e 1 v n xs) (hb : w.heap.size ≤ base) (hgrow : (W.alloc o).grownBy w1 v.ownBlock) : Below w.heap.size w w1 :=
  (hB.alloc hB.size o).grown hgrow (by have := hB.size; simp; omega) (fun g e => by have := (hown.lt g e).1; omega)

set_option maxHeartbeats 4000000 in
theorem starts_any (n : Nat) (hn : n ≤ 6) (T : Nat → Int) (hT : Ok n T) (m : Nat) (hm : m = domL (mv (turnL n (mv T n)) n)) (w : World) :
    Calls Try.prog 47 #[.agg #[.int .i64 ((n : Int)), .int .i64 (T 0), .int .i64 (T 1), .int .i64 (T 2), .int .i64 (T 3), .int .i64 (T 4), .int .i64 (T 5)]] w fun e w' => ∃ v, e = .returned v ∧ NewL w (nI (stL n m)) v w' := by
  obtain ⟨i0, hi, hz0, hz1, hz2⟩ := info_parts info_int
  have HM := Lib.hid hm
  have hm64 : m < 64 := by rw [hm]; exact domL_lt _
  clear hm
  have hA := Cb.new w n T
  go_enter Try.func47, Try.ntmps47
  go_wp2_with fail
  refine (image_any n hn T hT _).mono ?_
  rintro e w1 ⟨rfl, hb⟩
  rw [← HM.out]
  have hA1 := hA.below hb (by simp)
  have hB1 : Below w.heap.size w w1 := ((Below.refl _ w).alloc (Nat.le_refl _) _).trans (hb.mono (by simp))
  have a0 := hA1.head
  clear hA hb
  go_wp2
  go_loopw [3, 4, 11] (fun v1 v2 i wr => ∃ k : Nat, k ≤ n ∧ i = .int .i64 (k : Int) ∧ Duo wr w.heap.size v1 v2 (nI (stA m k)) (nI (List.range k)) ∧ (k = 0 → v1 = .slice none 0 0 ∧ v2 = .slice none 0 0) ∧ Below w.heap.size w wr) (fun _ _ i _ => n - (intOf i).toNat)
  case atStart =>
    have hD0 : Duo w1 w.heap.size (.slice none 0 0) (.slice none 0 0) [] [] := ⟨World.ownsRow_nil _ _ _ _, World.ownsRow_nil _ _ _ _, fun g h _ => by cases h⟩
    exact ⟨0, Nat.zero_le _, rfl, hD0, fun _ => ⟨rfl, rfl⟩, hB1⟩
  --⟨World.ownsRow_nil _ _ _ _, World.ownsRow_nil _ _ _ _, fun g h _ => by cases h⟩, hB1⟩
  case round =>
    clear hA1 hB1 a0
    obtain ⟨k, hk, rfl, hD, hnil, hB⟩ := hrel
    by_cases hlt : k < n
    · have hx2 : (nI (List.range k)).length + 1 ≤ maxLen ∧ ((nI (List.range k)).length + 1) * 8 ≤ 140737488355328 := by rw [nI_length, List.length_range]; unfold maxLen; omega
      have hx1 : (nI (stA m k)).length + 1 ≤ maxLen ∧ ((nI (stA m k)).length + 1) * 8 ≤ 140737488355328 := by
        have : (stA m k).length ≤ k := by unfold stA; exact Nat.le_trans (List.length_filter_le _ _) (by simp)
        rw [nI_length]; unfold maxLen; omega
      have h3wr : ∀ o : Obj, w.heap.size ≤ (wr.alloc o).heap.size := fun o => by have := hB.size; simp; omega
      have HR : Hid (nI (List.range (k + 1)) = nI (List.range k) ++ [(k : Int)]) := by show _ = _; rw [List.range_succ, nI_append]; rfl
      cases hbit : m.testBit k
      · have HB := Lib.hid hbit
        have HS : Hid (nI (stA m (k + 1)) = nI (stA m k) ++ [(k : Int)]) := by show _ = _; rw [stA_succ, if_neg (by rw [hbit]; simp), nI_append]; rfl
        clear hbit
        go_wp2_with (first | (go_at_call 40; refine (hasPoint_any m (k : Int) hm64 (by omega) (by omega) _).mono ?_; rintro e w' ⟨rfl, rfl⟩; rw [Int.toNat_natCast, HB.out]) | (at_builtin; refine wpList_append_own_at _ rfl _ _ 24 rfl w.heap.size 3 i0 (.int .i64 0) 1 8 Try.underlying24 hi hz0 hz1 hz2 rfl (by decide) _ _ _ rfl (hD.o2.alloc _) ⟨wr.heap.size, 0, none⟩ 1 1 [.int .i64 (k : Int)] rfl rfl (cell_one_new _ _ _) (by simp [Value.oneCell']) (hx2).1 (hx2).2 (h3wr _) ?_; intro v' w2 hown' hgrow _ hat; have hD2 := (hD.swap.app hown' hgrow hat).swap; have hB2 := below_grow hB hD.o2 (Nat.le_refl _) hgrow; have h3w2 : ∀ o : Obj, w.heap.size ≤ (w2.alloc o).heap.size := fun o => (by have := hB2.size; simp; omega); obtain ⟨g2, c2, rfl⟩ := ownsRow_succ hown'; clear hown' hgrow hat hD hB) | (at_builtin; refine wpList_append_own_at _ rfl _ _ 24 rfl w.heap.size 3 i0 (.int .i64 0) 1 8 Try.underlying24 hi hz0 hz1 hz2 rfl (by decide) _ _ _ rfl (hD2.o1.alloc _) ⟨w2.heap.size, 0, none⟩ 1 1 [.int .i64 (k : Int)] rfl rfl (cell_one_new _ _ _) (by simp [Value.oneCell']) (hx1).1 (hx1).2 (h3w2 _) ?_; intro v' w3 hown' hgrow _ hat; have hD3 := hD2.app hown' hgrow hat; have hB3 := below_grow hB2 hD2.o1 (Nat.le_refl _) hgrow; obtain ⟨g3, c3, rfl⟩ := ownsRow_succ hown'; clear hown' hgrow hat hD2 hB2))
        exact ⟨⟨k + 1, by omega, by go_num, by rw [HR.out, HS.out]; exact hD3, fun h => by omega, hB3⟩, by simp [intOf]; omega⟩
      · have HB := Lib.hid hbit
        have HS : Hid (nI (stA m (k + 1)) = nI (stA m k)) := by show _ = _; rw [stA_succ, if_pos hbit]
        clear hbit
        go_wp2_with (first | (go_at_call 40; refine (hasPoint_any m (k : Int) hm64 (by omega) (by omega) _).mono ?_; rintro e w' ⟨rfl, rfl⟩; rw [Int.toNat_natCast, HB.out]) | (at_builtin; refine wpList_append_own_at _ rfl _ _ 24 rfl w.heap.size 3 i0 (.int .i64 0) 1 8 Try.underlying24 hi hz0 hz1 hz2 rfl (by decide) _ _ _ rfl (hD.o2.alloc _) ⟨wr.heap.size, 0, none⟩ 1 1 [.int .i64 (k : Int)] rfl rfl (cell_one_new _ _ _) (by simp [Value.oneCell']) (hx2).1 (hx2).2 (h3wr _) ?_; intro v' w2 hown' hgrow _ hat; have hD2 := (hD.swap.app hown' hgrow hat).swap; have hB2 := below_grow hB hD.o2 (Nat.le_refl _) hgrow; have h3w2 : ∀ o : Obj, w.heap.size ≤ (w2.alloc o).heap.size := fun o => (by have := hB2.size; simp; omega); obtain ⟨g2, c2, rfl⟩ := ownsRow_succ hown'; clear hown' hgrow hat hD hB))
        exact ⟨⟨k + 1, by omega, by go_num, by rw [HR.out, HS.out]; exact hD2, fun h => by omega, hB2⟩, by simp [intOf]; omega⟩
    · obtain rfl : k = n := by omega
      by_cases h0 : k = 0
      · subst h0
        obtain ⟨rfl, rfl⟩ := hnil rfl
        have HE : Hid (nI (stL 0 m) = []) := rfl
        clear hD
        go_wp2
        go_ret
        exact ⟨_, rfl, by rw [HE.out]; exact World.ownsRow_nil _ _ _ _, hB⟩
      · obtain ⟨q, rfl⟩ : ∃ q, k = q + 1 := ⟨k - 1, by omega⟩
        have o2 := hD.o2
        rw [nI_length, List.length_range] at o2
        obtain ⟨g2, c2, rfl⟩ := ownsRow_succ o2
        have hcl : ∀ j u, (ivs (nI (List.range (q + 1))))[j]? = some u → wr.cell? ((⟨g2, 0, none⟩ : Addr).add j) = some u := hD.o2.cells rfl
        have hone : ∀ u ∈ ivs (nI (List.range (q + 1))), u.oneCell' = true := fun u hu => by
          obtain ⟨z, _, rfl⟩ := List.mem_map.1 hu; rfl
        have hx : (nI (stA m (q + 1))).length ≤ 6 := by
          have : (stA m (q + 1)).length ≤ q + 1 := by unfold stA; exact Nat.le_trans (List.length_filter_le _ _) (by simp)
          rw [nI_length]; omega
        have p1 : (nI (stA m (q + 1))).length + (q + 1) ≤ maxLen := by unfold maxLen; omega
        have p2 : ((nI (stA m (q + 1))).length + (q + 1)) * 8 ≤ 140737488355328 := by omega
        have o1 := hD.o1
        have HL : Hid (ivs (nI (stA m (q + 1))) ++ ivs (nI (List.range (q + 1))) = ivs (nI (stL (q + 1) m)) ∧ (nI (stA m (q + 1))).length + (q + 1) = (nI (stL (q + 1) m)).length) := by
          refine ⟨?_, ?_⟩
          · unfold stL; rw [nI_append]; simp [ivs]
          · unfold stL; rw [nI_append, List.length_append, nI_length (List.range _), List.length_range]
        have hlen : (ivs (nI (List.range (q + 1)))).length = (q + 1) * 1 := by simp [ivs, nI]
        have p3 := hB.size
        clear hD hnil hlt
        go_wp2_with (at_builtin; refine wpList_append_own _ rfl _ _ 24 rfl w.heap.size 3 i0 (.int .i64 0) 1 8 Try.underlying24 hi hz0 hz1 hz2 rfl (by decide) _ _ _ rfl o1 ⟨g2, 0, none⟩ (q + 1) c2 (ivs (nI (List.range (q + 1)))) rfl hlen hcl hone p1 p2 p3 ?_; intro v' w2 hown' hgrow _; have hB2 : Below w.heap.size w w2 := hB.grown hgrow p3 (fun g e => (o1.lt g e).1); clear hcl o1 o2 hgrow hB)
        go_ret
        refine ⟨_, rfl, ?_, hB2⟩
        rw [HL.out.1, HL.out.2] at hown'
        exact hown'
end

/-! (impl.chart).wayFrom. -/
section
open Go.RowKit

/-- what lies behind the store of a way into its box -/
theorem way_box {W : World} {B b m : Nat} {P : Nat → Int} {w : World} (hW : Wbx W B 0 none) (hR : Ring W b m P) (hBb : B < b) (hB : Below w.heap.size w W) (hwB : w.heap.size ≤ B) (kd : Int) (fp : Option Addr) :
    Wbx ((W.setCell ⟨B, 0, none⟩ (.int .i64 kd)).setCell ⟨B, 1, none⟩ (.pointer fp)) B kd fp ∧ Ring ((W.setCell ⟨B, 0, none⟩ (.int .i64 kd)).setCell ⟨B, 1, none⟩ (.pointer fp)) b m P ∧
      Below w.heap.size w ((W.setCell ⟨B, 0, none⟩ (.int .i64 kd)).setCell ⟨B, 1, none⟩ (.pointer fp)) :=
  ⟨B2.set1 (B2.set0 hW _) _, hR.same (fun j h1 _ => (Below.heap_setCell _ _ _ _ (by simp; omega)).trans (Below.heap_setCell _ _ _ _ (by simp; omega))),
    (hB.setCell (p := ⟨B, 0, none⟩) hwB _).setCell (p := ⟨B, 1, none⟩) hwB _⟩

/-- a block of another type is not touched by an append to a list of numbers -/
theorem heap_keep {W w1 : World} {B base k : Nat} {cur : Array Value} {t : TypeId} {v : Value} {xs : List Value} {o : Obj} (h : W.heap[B]? = some (.cells cur t (0, 0))) (ht : t ≠ 3) (hr : W.ownsRow base 3 1 v k xs) (hgrow : (W.alloc o).grownBy w1 v.ownBlock) : w1.heap[B]? = W.heap[B]? := by
  have hlt : B < W.heap.size := (Array.getElem?_eq_some_iff.1 h).1
  have hne : some B ≠ v.ownBlock := by
    rcases hr.2 with ⟨rfl, _⟩ | ⟨g, cap, cur', rfl, _, hgb, _⟩
    · simp [Value.ownBlock]
    · intro e'
      obtain rfl : B = g := by simpa [Value.ownBlock] using e'
      have := h.symm.trans hgb
      simp at this
      exact ht this.2
  exact (hgrow.block B (by simp; omega) hne).trans ((World.grownBy_alloc W o none).block B hlt (by simp))
theorem cb_grow {W w1 : World} {B base k : Nat} {n : Int} {T : Nat → Int} {v : Value} {xs : List Value} {o : Obj} (h : Cb W B n T) (hr : W.ownsRow base 3 1 v k xs) (hgrow : (W.alloc o).grownBy w1 v.ownBlock) : Cb w1 B n T := by
  have h' := h
  obtain ⟨c, hb, _⟩ := h'
  exact World.rowIs.of_block h (heap_keep hb (by decide) hr hgrow)

set_option maxHeartbeats 4000000 in
theorem wayFrom_any (n s : Nat) (F : Nat → Int) (hF : CH n F) (hs : s < n) (w : World) :
    Calls Try.prog 48 #[.agg #[.int .i64 ((n : Int)), .int .i64 (F 0), .int .i64 (F 1), .int .i64 (F 2), .int .i64 (F 3), .int .i64 (F 4), .int .i64 (F 5)], .int .i64 (s : Int)] w fun e w' => ∃ b : Nat, e = .returned (.agg #[.int .i64 (kdF F n s : Nat), .pointer (some ⟨b, 0, none⟩)]) ∧ w.heap.size ≤ b ∧ Ring w' b (wayL F n s).length (ofL (wayL F n s)) ∧ Below w.heap.size w w' := by
  obtain ⟨i0, hi, hz0, hz1, hz2⟩ := info_parts info_int
  have hn6 := hF.six
  have HF := Lib.hid hF
  have hA := (Cb.new w n F).alloc (.cells #[.int .i64 0, .pointer none] 58)
  have hW := B2.new (w.alloc (.cells #[.int .i64 ((n : Int)), .int .i64 (F 0), .int .i64 (F 1), .int .i64 (F 2), .int .i64 (F 3), .int .i64 (F 4), .int .i64 (F 5)] 50)) 58 (.int .i64 0) (.pointer none)
  rw [World.size_alloc] at hW
  have hB0 : Below w.heap.size w ((w.alloc (.cells #[.int .i64 ((n : Int)), .int .i64 (F 0), .int .i64 (F 1), .int .i64 (F 2), .int .i64 (F 3), .int .i64 (F 4), .int .i64 (F 5)] 50)).alloc (.cells #[.int .i64 0, .pointer none] 58)) := ((Below.refl _ w).alloc (Nat.le_refl _) _).alloc (by simp) _
  have hz : ((w.alloc (.cells #[.int .i64 ((n : Int)), .int .i64 (F 0), .int .i64 (F 1), .int .i64 (F 2), .int .i64 (F 3), .int .i64 (F 4), .int .i64 (F 5)] 50)).alloc (.cells #[.int .i64 0, .pointer none] 58)).heap.size = w.heap.size + 1 + 1 := by simp
  have HW0 := Lib.hid (WInv.zero (F := F) hs)
  have h1 : F s = itF F s 1 := by rw [itF_succ, if_pos (it0 _ s)]; show _ = F ((s : Int)).toNat; rw [Int.toNat_natCast]
  have hs6 : s < 6 := by omega
  have hLIT : (((w.alloc (.cells #[.int .i64 ((n : Int)), .int .i64 (F 0), .int .i64 (F 1), .int .i64 (F 2), .int .i64 (F 3), .int .i64 (F 4), .int .i64 (F 5)] 50)).alloc (.cells #[.int .i64 0, .pointer none] 58)).alloc (.cells #[.int .i64 (s : Int)] 3)).ownsRow w.heap.size 3 1 (.slice (some ⟨w.heap.size + 1 + 1, 0, none⟩) 1 1) 1 (ivs (LT 1 (itF F s))) := by
    have := World.ownsRow_lit (base := w.heap.size) (e := 3) (size := 1) ((w.alloc (.cells #[.int .i64 ((n : Int)), .int .i64 (F 0), .int .i64 (F 1), .int .i64 (F 2), .int .i64 (F 3), .int .i64 (F 4), .int .i64 (F 5)] 50)).alloc (.cells #[.int .i64 0, .pointer none] 58)) #[.int .i64 (s : Int)] 1 (by rw [hz]; omega) (by simp [maxLen]) rfl
    rw [hz] at this
    exact this
  have e0 := (hA.alloc (.cells #[.int .i64 (s : Int)] 3)).at_ hs6
  rw [h1] at e0
  have hA1 := hA.alloc (.cells #[.int .i64 (s : Int)] 3)
  have hW1 := B2.alloc hW (.cells #[.int .i64 (s : Int)] 3)
  have hB1 := hB0.alloc (by rw [hz]; omega) (.cells #[.int .i64 (s : Int)] 3)
  have HLIT := Lib.hid hLIT
  clear hF hLIT hA hW hB0 hz h1
  go_enter Try.func48, Try.ntmps48
  go_wp2
  go_loopw [5, 6] (fun v at_ wr => ∃ k : Nat, at_ = .int .i64 (itF F s (k + 1)) ∧ lenOf v = k + 1 ∧ wr.ownsRow w.heap.size 3 1 v (k + 1) (ivs (LT (k + 1) (itF F s))) ∧ Cb wr w.heap.size n F ∧ Wbx wr (w.heap.size + 1) 0 none ∧ Below w.heap.size w wr ∧ Hid (WInv F n s k)) (fun v _ _ => n - lenOf v)
  case atStart => exact ⟨0, rfl, rfl, HLIT.out, hA1, hW1, hB1, HW0⟩
  case round =>
    clear HLIT HW0 hA1 hW1 hB1 e0
    obtain ⟨k, rfl, hlv, hown, hA, hW, hB, HW⟩ := hrel
    have hkn := HW.out.1
    have hen := itF_en HF.out.en hs (k + 1)
    have HS := Lib.hid (fun h0 hne => WInv.step HF.out hs HW.out h0 hne)
    have HE := Lib.hid (fun hh => WInv.stop HW.out hh)
    have HN : Hid (∀ u : Nat, itF F s (k + 1) = (u : Int) → F u = itF F s (k + 2)) := fun u hu => by
      rw [itF_succ F s (k + 1), if_pos (by omega), hu, Int.toNat_natCast]
    have HA := Lib.hid (show LT (k + 1) (itF F s) ++ [itF F s (k + 1)] = LT (k + 2) (itF F s) from (LT_succ (k + 1) _).symm)
    have HK : Hid (wayL F n s = LT (k + 1) (itF F s) → kdF F n s = if itF F s (k + 1) = (s : Int) then 1 else 0) := fun e => by unfold kdF; rw [e, LT_length]
    generalize hz : itF F s (k + 1) = z at hen HS HE HN HA HK
    clear HW
    obtain ⟨g, cp, rfl⟩ := ownsRow_succ hown
    have hsz := B2.lt hW
    have hk6 : k + 1 ≤ 1048576 := by omega
    by_cases hneg : z < 0
    · have hz1 : z = -1 := by omega
      subst hz1
      have HX := Lib.hid (HE.out (fun hh => by omega))
      have HKK : Hid (kdF F n s = 0) := by have := HK.out HX.out; rw [if_neg (by omega)] at this; exact this
      have hne : ((-1 : Int) == (s : Int)) = false := by simp <;> omega
      clear HE HS HN HA HK hz
      go_wp2_with fail
      refine (linked_any 0 w.heap.size g cp (k + 1) (LT (k + 1) (itF F s)) wr hown (LT_length _ _) (by omega) hk6).mono ?_
      rintro e w2 ⟨rfl, hR, hb2⟩
      have hW2 := hW.below hb2 hsz
      have hB2 := hB.trans (hb2.mono hB.size)
      have hq := way_box (w := w) hW2 hR (by omega) hB2 (by omega) 0 (some ⟨wr.heap.size + 1, 0, none⟩)
      have q0 := B2.c0 hq.1
      have q1 := B2.c1 hq.1
      have q2 := B2.f0 hW2
      have q3 := B2.f1 hW2
      have q4 := B2.c0 hW2
      have q5 := B2.c1 hW2
      have hbs := hB.size
      clear hA hW hB hR hb2 hW2 hB2 hown
      go_wp2
      refine bodyPost_ret (v := .agg #[.int .i64 0, .pointer (some ⟨wr.heap.size + 1, 0, none⟩)]) (by simp [results, Try.results48, go_sem, q0, q1]) rfl ⟨wr.heap.size + 1, by rw [HKK.out]; rfl, by omega, by rw [HX.out, LT_length]; exact hq.2.1, hq.2.2⟩
    · by_cases heq : z = (s : Int)
      · subst heq
        have HX := Lib.hid (HE.out (fun hh => hh.2 rfl))
        have HKK : Hid (kdF F n s = 1) := by have := HK.out HX.out; rw [if_pos rfl] at this; exact this
        clear HE HS HN HA HK hz
        go_wp2_with fail
        refine (linked_any 1 w.heap.size g cp (k + 1) (LT (k + 1) (itF F s)) wr hown (LT_length _ _) (by omega) hk6).mono ?_
        rintro e w2 ⟨rfl, hR, hb2⟩
        have hW2 := hW.below hb2 hsz
        have hB2 := hB.trans (hb2.mono hB.size)
        have hq := way_box (w := w) hW2 hR (by omega) hB2 (by omega) 1 (some ⟨wr.heap.size + 1, 0, none⟩)
        have q0 := B2.c0 hq.1
        have q1 := B2.c1 hq.1
        have q2 := B2.f0 hW2
        have q3 := B2.f1 hW2
        have q4 := B2.c0 hW2
        have q5 := B2.c1 hW2
        have hbs := hB.size
        clear hA hW hB hR hb2 hW2 hB2 hown
        go_wp2
        refine bodyPost_ret (v := .agg #[.int .i64 1, .pointer (some ⟨wr.heap.size + 1, 0, none⟩)]) (by simp [results, Try.results48, go_sem, q0, q1]) rfl ⟨wr.heap.size + 1, by rw [HKK.out]; rfl, by omega, by rw [HX.out, LT_length]; exact hq.2.1, hq.2.2⟩
      · have HX := Lib.hid (HS.out (by omega) heq)
        obtain ⟨u, rfl⟩ := Int.eq_ofNat_of_zero_le (show 0 ≤ z by omega)
        have hu : u < n := by omega
        have hu6 : u < 6 := by omega
        have hkn1 := HX.out.1
        have h2 : k + 1 + 1 ≤ maxLen := by unfold maxLen; omega
        have h3 : (k + 1 + 1) * 8 ≤ 140737488355328 := by omega
        have h4 : ∀ o : Obj, w.heap.size ≤ (wr.alloc o).heap.size := fun o => by have := hB.size; simp; omega
        have hne : ((u : Int) != (s : Int)) = true := by rw [bne_iff_ne]; exact heq
        have hne1 : ((u : Int) != -1) = true := by rw [bne_iff_ne]; omega
        have HNu := Lib.hid (HN.out u rfl)
        clear HE HS HN HK hz
        go_wp2_with (at_builtin; refine wpList_append_own _ rfl _ _ 24 rfl w.heap.size 3 i0 (.int .i64 0) 1 8 Try.underlying24 hi hz0 hz1 hz2 rfl (by decide) _ _ _ rfl (hown.alloc _) ⟨wr.heap.size, 0, none⟩ 1 1 [.int .i64 (u : Int)] rfl rfl (cell_one_new _ _ _) (by simp [Value.oneCell']) h2 h3 (h4 _) ?_; intro v' w1 hown' hgrow _; have hR := app_step hB hown hown' hgrow HA.out; have hA' := cb_grow hA hown hgrow; have hW' : Wbx w1 (w.heap.size + 1) 0 none := hW.same (heap_keep hW (by decide) hown hgrow); have e3 := hA'.at_ hu6; rw [HNu.out] at e3; clear hown' hgrow hA hW hB hown; obtain ⟨g', c', rfl⟩ := ownsRow_succ hR.1)
        exact ⟨⟨k + 1, rfl, rfl, hR.1, hA', hW', hR.2, HX⟩, by simp [lenOf]; omega⟩
end

/-! (impl.chart).ways. -/
section
open Go.RowKit Go.Shelf
attribute [local go_sem] Oper.semAt_some

/-! ### ways in memory -/
def wc : List (KW × Nat) → List Value
  | [] => []
  | p :: r => .int .i64 (p.1.1 : Int) :: .pointer (some ⟨p.2, 0, none⟩) :: wc r
theorem wc_append : ∀ (a b : List (KW × Nat)), wc (a ++ b) = wc a ++ wc b
  | [], b => rfl
  | p :: r, b => by show _ :: _ :: wc (r ++ b) = _; rw [wc_append r b]; rfl
theorem wc_length : ∀ (a : List (KW × Nat)), (wc a).length = a.length * 2
  | [] => rfl
  | p :: r => by show (wc r).length + 1 + 1 = _; rw [wc_length r]; simp; omega
theorem wc_get : ∀ (a : List (KW × Nat)) (t : Nat) (p : KW × Nat), a[t]? = some p → (wc a)[t * 2]? = some (.int .i64 (p.1.1 : Int)) ∧ (wc a)[t * 2 + 1]? = some (.pointer (some ⟨p.2, 0, none⟩))
  | [], t, p, h => by simp at h
  | q :: r, 0, p, h => by
    simp at h; subst h; exact ⟨rfl, rfl⟩
  | q :: r, t + 1, p, h => by
    have ih := wc_get r t p (by simpa using h)
    refine ⟨?_, ?_⟩
    · rw [show (t + 1) * 2 = t * 2 + 1 + 1 by omega]; exact ih.1
    · rw [show (t + 1) * 2 + 1 = t * 2 + 1 + 1 + 1 by omega]; exact ih.2
theorem wc_one (a : List (KW × Nat)) : ∀ u ∈ wc a, u.oneCell' = true := by
  induction a with
  | nil => intro u h; simp [wc] at h
  | cons p r ih =>
    intro u h
    simp only [wc, List.mem_cons] at h
    rcases h with rfl | rfl | h
    · rfl
    · rfl
    · exact ih u h

/-- v holds the ways ps, each in a ring of its own, from block lo on -/
def WW (W : World) (lo : Nat) (ps : List (KW × Nat)) (v : Value) : Prop :=
  W.ownsRow lo 58 2 v ps.length (wc ps) ∧ ∀ p ∈ ps, 1 ≤ p.1.2.length ∧ lo ≤ p.2 ∧ Ring W p.2 p.1.2.length (ofL p.1.2)
theorem WW.below {W W' : World} {lo : Nat} {ps : List (KW × Nat)} {v : Value} (h : WW W lo ps v) (hb : Below W.heap.size W W') : WW W' lo ps v :=
  ⟨own_below h.1 hb, fun p hp => ⟨(h.2 p hp).1, (h.2 p hp).2.1, (h.2 p hp).2.2.below hb ((h.2 p hp).2.2.lt (h.2 p hp).1)⟩⟩

/-- a block of another type is not touched by an append to a list -/
theorem heap_keep_e {W w1 : World} {B base k size : Nat} {ob : Obj} {e : TypeId} {v : Value} {xs : List Value} {o : Obj} (h : W.heap[B]? = some ob) (ht : ∀ cur, ob ≠ .cells cur e (0, 0)) (hr : W.ownsRow base e size v k xs) (hgrow : (W.alloc o).grownBy w1 v.ownBlock) : w1.heap[B]? = W.heap[B]? := by
  have hlt : B < W.heap.size := (Array.getElem?_eq_some_iff.1 h).1
  have hne : some B ≠ v.ownBlock := by
    rcases hr.2 with ⟨rfl, _⟩ | ⟨g, cap, cur', rfl, _, hgb, _⟩
    · simp [Value.ownBlock]
    · intro e'
      obtain rfl : B = g := by simpa [Value.ownBlock] using e'
      have := h.symm.trans hgb
      simp at this
      exact ht cur' this
  exact (hgrow.block B (by simp; omega) hne).trans ((World.grownBy_alloc W o none).block B hlt (by simp))
theorem WW.app {W w1 : World} {lo : Nat} {ps : List (KW × Nat)} {v v' : Value} {x : KW} {b : Nat} {o : Obj} (h : WW W lo ps v)
    (hx : 1 ≤ x.2.length ∧ lo ≤ b ∧ Ring W b x.2.length (ofL x.2))
    (hown' : w1.ownsRow lo 58 2 v' (ps.length + 1) (wc ps ++ [.int .i64 (x.1 : Int), .pointer (some ⟨b, 0, none⟩)])) (hgrow : (W.alloc o).grownBy w1 v.ownBlock) : WW w1 lo (ps ++ [(x, b)]) v' := by
  have hring : ∀ (c m : Nat) (P : Nat → Int), Ring W c m P → Ring w1 c m P := fun c m P hR i hi =>
    (hR i hi).same (heap_keep_e (hR i hi) (fun cur e => by simp at e) h.1 hgrow)
  refine ⟨?_, fun p hp => ?_⟩
  · rw [wc_append, List.length_append]; exact hown'
  · rcases List.mem_append.1 hp with hp | hp
    · exact ⟨(h.2 p hp).1, (h.2 p hp).2.1, hring _ _ _ (h.2 p hp).2.2⟩
    · simp at hp; subst hp; exact ⟨hx.1, hx.2.1, hring _ _ _ hx.2.2⟩

/-- the marks that loops over iterators have left behind -/
def dfl (Ds : List Nat) : List Deferred := Ds.map (fun D => { target := .collected D, args := #[] })
def Dfs (lo : Nat) (Ds : List Nat) (W : World) : Prop := Ds.Nodup ∧ ∀ D ∈ Ds, lo ≤ D ∧ W.heap[D]? = some (.deferred (some []))
theorem Dfs.same {lo : Nat} {Ds : List Nat} {W W' : World} (h : Dfs lo Ds W) (hs : ∀ k : Nat, W.heap[k]? = some (Obj.deferred (some [])) → W'.heap[k]? = W.heap[k]?) : Dfs lo Ds W' :=
  ⟨h.1, fun D hD => ⟨(h.2 D hD).1, (hs D (h.2 D hD).2).trans (h.2 D hD).2⟩⟩
theorem Dfs.lt {lo : Nat} {Ds : List Nat} {W : World} (h : Dfs lo Ds W) : ∀ D ∈ Ds, D < W.heap.size := fun D hD => (Array.getElem?_eq_some_iff.1 (h.2 D hD).2).1
theorem Dfs.below {lo : Nat} {Ds : List Nat} {W W' : World} (h : Dfs lo Ds W) (hb : Below W.heap.size W W') (_ : True := trivial) : Dfs lo Ds W' := Dfs.same h (fun k hk => hb.block k (Array.getElem?_eq_some_iff.1 hk).1)
theorem dfs_leave {F : Fence} {q : Nat} {P : Program} {fn : Func} {tmps : Array Value} {R : Ending → World → Prop} (lo : Nat) (G : World → Prop)
    (hstep : ∀ (V : World) (D : Nat), lo ≤ D → V.heap[D]? = some (.deferred (some [])) → G V → G (V.putObj D (.deferred none)))
    (hfin : ∀ V, G V → LeavesInM F q P fn tmps R [] .returning V) : ∀ (Ds : List Nat) (W : World), Dfs lo Ds W → G W → LeavesInM F q P fn tmps R (dfl Ds) .returning W
  | [], W, _, hG => hfin W hG
  | D :: Ds, W, h, hG => by
    have hD := h.2 D List.mem_cons_self
    refine ⟨by simp, .inl ⟨_, _, rfl, run_takeDeferred hD.2, ?_⟩⟩
    refine dfs_leave lo G hstep hfin Ds _ ⟨(List.nodup_cons.1 h.1).2, fun E hE => ⟨(h.2 E (List.mem_cons_of_mem _ hE)).1, ?_⟩⟩ (hstep W D hD.1 hD.2 hG)
    exact (World.putObj_heap_other (by rintro rfl; exact (List.nodup_cons.1 h.1).1 hE)).trans (h.2 E (List.mem_cons_of_mem _ hE)).2

theorem gb_weak {A B : World} (h : A.grownBy B none) (r : Option Nat) : A.grownBy B r := ⟨h.os, h.tape, h.output, h.size, fun k hk _ => h.block k hk (by simp)⟩
theorem WW.grown {W V : World} {lo r : Nat} {ps : List (KW × Nat)} {v : Value} (h : WW W lo ps v) (hg : W.grownBy V (some r)) (hr : r < lo) : WW V lo ps v :=
  ⟨h.1.kept hg (.inr (fun e => by have := (h.1.lt r e).1; omega)), fun p hp => ⟨(h.2 p hp).1, (h.2 p hp).2.1, (h.2 p hp).2.2.same (fun j h1 h2 => hg.block j (by have := (h.2 p hp).2.2.lt (h.2 p hp).1; omega) (by have := (h.2 p hp).2.1; simp; omega))⟩⟩
theorem Dfs.grown {lo r : Nat} {Ds : List Nat} {W V : World} {x : Int} (h : Dfs lo Ds W) (hg : W.grownBy V (some r)) (hI : Ib W r x) : Dfs lo Ds V := Dfs.same h (fun k hk => hg.block k (Array.getElem?_eq_some_iff.1 hk).1 (by
  rintro e
  obtain rfl : k = r := by simpa using e
  obtain ⟨c, hb, _⟩ := hI
  rw [hb] at hk; cases hk))
theorem info_way : (Try.prog.info? 58).map (fun i => (i.zero, i.size, i.bytes)) = some (some (.agg #[.int .i64 0, .pointer none]), 2, 16) := by kernel_rfl
theorem cell_two_new (W : World) (u v : Value) (t : TypeId) : ∀ (j : Nat) (x : Value), [u, v][j]? = some x → (W.alloc (.cells #[u, v] t)).cell? ((⟨W.heap.size, 0, none⟩ : Addr).add j) = some x := fun j x h => by
  have hB := B2.new W t u v
  have hadd : (⟨W.heap.size, 0, none⟩ : Addr).add j = ⟨W.heap.size, j, none⟩ := by unfold Addr.add; split <;> simp_all
  rw [hadd]
  match j, h with
  | 0, h => simp at h; subst h; exact B2.c0 hB
  | 1, h => simp at h; subst h; exact B2.c1 hB
  | j + 2, h => simp at h
theorem WW.put {W : World} {lo D : Nat} {ps : List (KW × Nat)} {v : Value} (h : WW W lo ps v) (hD : W.heap[D]? = some (.deferred (some []))) : WW (W.putObj D (.deferred none)) lo ps v :=
  ⟨ownsRow_putObj h.1 _ hD rfl, fun p hp => ⟨(h.2 p hp).1, (h.2 p hp).2.1, fun i hi => B2.same ((h.2 p hp).2.2 i hi) (World.putObj_heap_other (by
    rintro e
    rw [← e] at hD
    have h2 := (show W.heap[p.2 + i]? = _ from (h.2 p hp).2.2 i hi).symm.trans hD
    cases h2))⟩⟩

theorem stL_lt (n m : Nat) : ∀ s ∈ stL n m, s < n := fun s hs => by
  unfold stL stA at hs
  rcases List.mem_append.1 hs with h | h
  · exact List.mem_range.1 (List.mem_filter.1 h).1
  · exact List.mem_range.1 h

theorem gb_then {A B C : World} {r : Nat} {r' : Option Nat} (h : A.grownBy B (some r)) (k : B.grownBy C r') (hr : ∀ g, r' = some g → A.heap.size ≤ g ∨ g = r) : A.grownBy C (some r) :=
  ⟨k.os.trans h.os, k.tape.trans h.tape, k.output.trans h.output, Nat.le_trans h.size k.size, fun j hj hne => (k.block j (Nat.lt_of_lt_of_le hj h.size) (fun e => by
    rcases hr j e.symm with h1 | h1
    · omega
    · exact hne (by rw [h1]))).trans (h.block j hj hne)⟩
theorem gb_bel {W W' : World} (hb : Below W.heap.size W W') : W.grownBy W' none := ⟨hb.os, hb.tape, hb.output, hb.size, fun k hk _ => hb.block k hk⟩
theorem gb_self (W : World) (r : Option Nat) : W.grownBy W r := ⟨rfl, rfl, rfl, Nat.le_refl _, fun _ _ _ => rfl⟩
theorem ownFrom_gb {β : Type} {A : World} {r B : Nat} (hB : A.heap.size ≤ B) : OwnFrom B (fun (_ : β) W => A.grownBy W (some r)) := fun s X Y row hs hg hr =>
  gb_then hs hg (fun g e => .inl (by have := (hr g e).1; omega))
theorem goK_len (F : Nat → Int) (n : Nat) : ∀ (L : List Nat) (acc : List KW), (goK F n L acc).length ≤ acc.length + L.length
  | [], acc => Nat.le_refl _
  | s :: L, acc => by
    have ih := goK_len F n L (stp F n acc s)
    have h1 : (stp F n acc s).length ≤ acc.length + 1 := by unfold stp; split <;> simp
    show (goK F n L (stp F n acc s)).length ≤ _
    simp only [List.length_cons]
    omega
theorem orK_lt {n : Nat} {F : Nat → Int} (hF : CH n F) : ∀ (L : List Nat), (∀ s ∈ L, s < n) → orK (goK F n L []) < 64 ∧ ∀ x ∈ goK F n L [], ∃ s, s < n ∧ x = (kdF F n s, wayL F n s) := fun L => by
  have h6 := hF.six
  have key : ∀ (L : List Nat) (acc : List KW), (∀ s ∈ L, s < n) → (∀ x ∈ acc, ∃ s, s < n ∧ x = (kdF F n s, wayL F n s)) → ∀ x ∈ goK F n L acc, ∃ s, s < n ∧ x = (kdF F n s, wayL F n s) := fun L => by
    induction L with
    | nil => intro acc _ h; exact h
    | cons s L ih =>
      intro acc hL h
      refine ih (stp F n acc s) (fun j hj => hL j (List.mem_cons_of_mem _ hj)) (fun x hx => ?_)
      unfold stp at hx
      split at hx
      · exact h x hx
      · rcases List.mem_append.1 hx with hx | hx
        · exact h x hx
        · simp at hx; exact ⟨s, hL s List.mem_cons_self, hx⟩
  intro hL
  have h := key L [] hL (fun x hx => by cases hx)
  refine ⟨?_, h⟩
  unfold orK lsK
  refine orSS_lt _ _ (by omega) (fun M hM z hz => ?_)
  obtain ⟨x, hx, rfl⟩ := List.mem_map.1 hM
  obtain ⟨s, hs, rfl⟩ := h x hx
  have := way_ent hF hs z hz
  omega

set_option maxHeartbeats 16000000 in
theorem ways_any (n : Nat) (F : Nat → Int) (hF : CH n F) (m : Nat) (hm : m = domL (mv (turnL n (mv F n)) n)) (w : World) :
    Calls Try.prog 33 #[.agg #[.int .i64 ((n : Int)), .int .i64 (F 0), .int .i64 (F 1), .int .i64 (F 2), .int .i64 (F 3), .int .i64 (F 4), .int .i64 (F 5)]] w fun e w' => ∃ (v : Value) (ps : List (KW × Nat)), e = .returned v ∧ ps.map (·.1) = goK F n (stL n m) [] ∧ WW w' w.heap.size ps v ∧ Below w.heap.size w w' := by
  have h6 := hF.six
  have HF := Lib.hid hF
  have hOk := en_ok h6 hF.en
  have hst := hF.one
  have HM := Lib.hid hm
  have hA := (Cb.new w n F).alloc (.cells #[.int .i64 0] 3)
  have hI := Ib.new (w.alloc (.cells #[.int .i64 ((n : Int)), .int .i64 (F 0), .int .i64 (F 1), .int .i64 (F 2), .int .i64 (F 3), .int .i64 (F 4), .int .i64 (F 5)] 50)) 0
  rw [World.size_alloc] at hI
  have hB0 : Below w.heap.size w ((w.alloc (.cells #[.int .i64 ((n : Int)), .int .i64 (F 0), .int .i64 (F 1), .int .i64 (F 2), .int .i64 (F 3), .int .i64 (F 4), .int .i64 (F 5)] 50)).alloc (.cells #[.int .i64 0] 3)) := ((Below.refl _ w).alloc (Nat.le_refl _) _).alloc (by simp) _
  have hz : ((w.alloc (.cells #[.int .i64 ((n : Int)), .int .i64 (F 0), .int .i64 (F 1), .int .i64 (F 2), .int .i64 (F 3), .int .i64 (F 4), .int .i64 (F 5)] 50)).alloc (.cells #[.int .i64 0] 3)).heap.size = w.heap.size + 1 + 1 := by simp
  clear hF hm
  refine (callsIn_wide (n := 3)).1 ?_
  refine callsIn_of_wp_marks Try.func33 rfl trivial ?_ rfl
  simp only [Try.ntmps33, List.size_toArray, List.length_cons, List.length_nil, Nat.reduceAdd, Nat.reduceSub, Array.replicate_succ, Array.replicate_zero, List.push_toArray, List.append_toArray, List.nil_append, List.cons_append]
  gi_wp2_with fail
  refine ⟨trivial, (callsIn_wide.2 (starts_any n h6 F hOk m HM.out _)).mono ?_⟩
  rintro e w1 ⟨vs, rfl, hN, hb⟩
  have hown := hN
  have hlt : 1 ≤ (nI (stL n m)).length := by rw [nI_length]; unfold stL; rw [List.length_append, List.length_range]; omega
  obtain ⟨N, hNl⟩ : ∃ N, (nI (stL n m)).length = N + 1 := ⟨_, (Nat.sub_add_cancel hlt).symm⟩
  rw [hNl] at hown
  obtain ⟨gs, cs, rfl⟩ := ownsRow_succ hown
  have hgs := hown.lt gs rfl
  rw [hz] at hgs
  have hcl : Hid (∀ (t s : Nat), (stL n m)[t]? = some s → w1.cell? ⟨gs, t, none⟩ = some (.int .i64 (s : Int))) := fun t s hts => by
    have hc := hown.cells (g := gs) rfl t (.int .i64 (s : Int)) (by simp [ivs, nI, hts])
    have hadd : (⟨gs, 0, none⟩ : Addr).add t = ⟨gs, t, none⟩ := by unfold Addr.add; split <;> simp_all
    rwa [hadd] at hc
  have HL : Hid ((stL n m).length = N + 1) := by show _ = _; rw [← hNl, nI_length]
  have hN1 : N + 1 ≤ 12 := by
    have : (stL n m).length ≤ n + n := by
      unfold stL stA; rw [List.length_append, List.length_range]
      have := List.length_filter_le (fun i => !m.testBit i) (List.range n)
      rw [List.length_range] at this; omega
    rw [HL.out] at this; omega
  have hA1 := hA.below hb (by rw [hz]; omega)
  have hI1 := hI.below hb (by rw [hz]; omega)
  have hB1 : Below w.heap.size w w1 := hB0.trans (hb.mono hB0.size)
  have hs1 := hb.size
  rw [hz] at hs1
  clear hN hown hNl hlt hA hI hB0 hb
  gi_wp2
  refine wpIn_loop (I := fun a W => ∃ (t : Nat) (ps : List (KW × Nat)) (v : Value) (Ds : List Nat) (u5 u6 u7 u8 u9 u13 u14 u15 u16 u17 u18 u19 u20 u21 u22 u23 u24 u25 u26 u27 u28 u29 u30 u31 u32 u33 u34 u35 u36 u37 : Value),
      a = { tmps := #[.agg #[.int .i64 ((n : Int)), .int .i64 (F 0), .int .i64 (F 1), .int .i64 (F 2), .int .i64 (F 3), .int .i64 (F 4), .int .i64 (F 5)], .pointer (some ⟨w.heap.size, 0, none⟩), .slice none 0 0, v, .pointer (some ⟨w.heap.size + 1, 0, none⟩), u5, u6, u7, u8, u9, .slice (some ⟨gs, 0, none⟩) (N + 1) cs, .int .i64 ((N + 1 : Nat) : Int), .int .i64 (t : Int), u13, u14, u15, u16, u17, u18, u19, u20, u21, u22, u23, u24, u25, u26, u27, u28, u29, u30, u31, u32, u33, u34, u35, u36, u37], defers := dfl Ds } ∧
      t ≤ N + 1 ∧ ps.map (·.1) = goK F n ((stL n m).take t) [] ∧ w1.grownBy W (some (w.heap.size + 1)) ∧ Ib W (w.heap.size + 1) (orK (ps.map (·.1)) : Nat) ∧ WW W w1.heap.size ps v ∧ Dfs w1.heap.size Ds W)
    (μ := fun a _ => N + 1 - (intOf (a.tmps.getD 12 undef)).toNat) ?start ?round
  case start =>
    refine ⟨0, [], .slice none 0 0, [], _, _, _, _, _, _, _, _, _, _, _, _, _, _, _, _, _, _, _, _, _, _, _, _, _, _, _, _, _, _, rfl, by omega, rfl, gb_self _ _, hI1, ⟨World.ownsRow_nil _ _ _ _, fun p hp => by cases hp⟩, ⟨List.nodup_nil, fun D hD => by cases hD⟩⟩
  case round =>
    rintro a W ⟨t, ps, v, Ds, u5, u6, u7, u8, u9, u13, u14, u15, u16, u17, u18, u19, u20, u21, u22, u23, u24, u25, u26, u27, u28, u29, u30, u31, u32, u33, u34, u35, u36, u37, rfl, ht, hps, hG, hI, hWW, hD⟩
    have hA := World.rowIs.of_block hA1 (hG.block w.heap.size (by omega) (by simp))
    have hA : Cb W w.heap.size n F := hA
    by_cases hlt : t < N + 1
    · have hmb : w.heap.size + 1 < w1.heap.size := by omega
      have hWs := hG.size
      obtain ⟨s, hts⟩ : ∃ s, (stL n m)[t]? = some s := ⟨_, List.getElem?_eq_getElem (by rw [HL.out]; omega)⟩
      have hsn : s < n := stL_lt n m s (List.mem_of_getElem? hts)
      have hcell : W.cell? ⟨gs, t, none⟩ = some (.int .i64 (s : Int)) := (World.cell?_of_block (hG.block gs (by omega) (by simp; omega))).trans (hcl.out t s hts)
      have hmet := hI.cell
      have hgo : goK F n ((stL n m).take (t + 1)) [] = stp F n (ps.map (·.1)) s := by
        rw [hps, List.take_add_one, hts]; exact goK_snoc F n _ s []
      have hq64 : orK (ps.map (·.1)) < 64 := by rw [hps]; exact (orK_lt HF.out _ (fun j hj => stL_lt n m j (List.mem_of_mem_take hj))).1
      have HGO := Lib.hid hgo
      have HPS := Lib.hid hps
      have HQ : Hid (stp F n (ps.map (·.1)) s = if (orK (ps.map (·.1))).testBit s = true then ps.map (·.1) else ps.map (·.1) ++ [(kdF F n s, wayL F n s)]) := rfl
      clear hgo hps hts
      obtain ⟨a0, a1, a2, a3, a4, a5, a6⟩ := hA.all
      have HI := Lib.hid hI
      have HOR : Hid (orK (ps.map (·.1)) = orSS 0 (lsK (ps.map (·.1)))) := rfl
      generalize orK (ps.map (·.1)) = q at *
      cases hbit : q.testBit s
      · have HB := Lib.hid hbit
        rw [hbit] at HQ
        clear hbit
        gi_wp2_with fail
        refine ⟨trivial, (callsIn_wide.2 (hasPoint_any q (s : Int) hq64 (by omega) (by omega) W)).mono ?_⟩
        rintro e w' ⟨rfl, rfl⟩
        rw [Int.toNat_natCast, HB.out]
        gi_wp2_with fail
        refine ⟨trivial, (callsIn_wide.2 (wayFrom_any n s F HF.out hsn _)).mono ?_⟩
        rintro e W2 ⟨b, rfl, hbb, hR, hb2⟩
        gi_wp2_with fail
        refine ⟨trivial, (steps_in Fence.wide 2 trivial rfl _ _ _).mono ?_⟩
        rintro e W3 ⟨rfl, rfl⟩
        have hs2 := hb2.size
        have hlen := way_len HF.out hsn
        have hent := way_ent HF.out hsn
        have HKd : Hid (kdF F n s = kdF F n s) := rfl
        generalize hkd : kdF F n s = kd at *
        generalize hLw : wayL F n s = L at *
        clear HKd hkd hLw
        have hB7 := B2.alloc (B2.new W2 58 (.int .i64 (kd : Int)) (.pointer (some ⟨b, 0, none⟩))) (.cells #[.int .i64 (kd : Int), .pointer (some ⟨b, 0, none⟩)] 58)
        have hWb := B2.new (W2.alloc (.cells #[.int .i64 (kd : Int), .pointer (some ⟨b, 0, none⟩)] 58)) 58 (.int .i64 (kd : Int)) (.pointer (some ⟨b, 0, none⟩))
        rw [World.size_alloc] at hWb
        have hbe : Below W2.heap.size W2 ((W2.alloc (.cells #[.int .i64 (kd : Int), .pointer (some ⟨b, 0, none⟩)] 58)).alloc (.cells #[.int .i64 (kd : Int), .pointer (some ⟨b, 0, none⟩)] 58)) := ((Below.refl _ W2).alloc (Nat.le_refl _) _).alloc (by simp) _
        have hR4 := hR.below hbe (hR.lt (by omega))
        have hRlt := hR.lt (by omega)
        have hG4 : W.grownBy ((W2.alloc (.cells #[.int .i64 (kd : Int), .pointer (some ⟨b, 0, none⟩)] 58)).alloc (.cells #[.int .i64 (kd : Int), .pointer (some ⟨b, 0, none⟩)] 58)) none := gb_bel (hb2.trans (hbe.mono hs2))
        have hsz4 : ((W2.alloc (.cells #[.int .i64 (kd : Int), .pointer (some ⟨b, 0, none⟩)] 58)).alloc (.cells #[.int .i64 (kd : Int), .pointer (some ⟨b, 0, none⟩)] 58)).heap.size = W2.heap.size + 2 := by simp
        have hI4 : Ib ((W2.alloc (.cells #[.int .i64 (kd : Int), .pointer (some ⟨b, 0, none⟩)] 58)).alloc (.cells #[.int .i64 (kd : Int), .pointer (some ⟨b, 0, none⟩)] 58)) (w.heap.size + 1) ((orL q ([] : List Int) : Nat) : Int) := World.rowIs.of_block HI.out (hG4.block _ (by omega) (by simp))
        clear hR hb2 hbe hmet hcell a0 a1 a2 a3 a4 a5 a6 hA
        gi_wp2
        generalize (W2.alloc (.cells #[.int .i64 (kd : Int), .pointer (some ⟨b, 0, none⟩)] 58)).alloc (.cells #[.int .i64 (kd : Int), .pointer (some ⟨b, 0, none⟩)] 58) = W4 at *
        refine wpIn_rangeFunc_ownG rfl (by omega) (gf := 54) (lb := #[.pointer (some ⟨W2.heap.size + 1, 0, none⟩)]) rfl trivial (enters_of Try.func54 (by kernel_rfl) rfl)
          (steps_stops Fence.wide 2 trivial rfl (by omega) b L.length (W2.heap.size + 1) (by omega) kd (ofL L) W4 hR4 hWb) Kr_t (Kr_b (by omega) (by omega)) (Below.refl _ _) (fun _ => rfl)
          (fun (pre : List (Fin L.length)) V => Ib V (w.heap.size + 1) ((orL q (pre.map (fun x => ofL L x.val)) : Nat) : Int) ∧ W4.grownBy V (some (w.heap.size + 1)))
          (fun _ _ _ => False)
          (OwnFrom.and (Own.from (fun s A B row hs hg hr => ib_own _ (fun pre : List (Fin L.length) => ((orL q (pre.map (fun x => ofL L x.val)) : Nat) : Int)) s A B row hs hg hr) _) (ownFrom_gb (Nat.le_refl _)))
          (fun _ _ _ _ _ hs _ _ => hs)
          ⟨hI4, gb_self _ _⟩
          ?a1 ?assign ?body ?done ?stop
        case assign =>
          intro l x V K hK
          gi_wp2
          exact hK
        case body =>
          rintro l pre x V ⟨hI5, hG5⟩ hlen5
          have hmx : Try.prog.follows .mixedOrders = true := by kernel_rfl
          have hst := hR4 x.val x.isLt
          have hstV : Stp V (b + x.val) (ofL L x.val) _ := hst.same (hG5.block (b + x.val) (B2.lt hst) (by simp; omega))
          have q5 := B2.c0 hstV
          have hpre : orL q (pre.map (fun x => ofL L x.val)) < 64 := orL_lt _ _ hq64 (fun z hz => by
            obtain ⟨y, _, rfl⟩ := List.mem_map.1 hz
            have := hent (ofL L y.val) (by unfold ofL; rw [List.getElem?_eq_getElem y.isLt]; exact List.getElem_mem _)
            omega)
          have hz := hent (ofL L x.val) (by unfold ofL; rw [List.getElem?_eq_getElem x.isLt]; exact List.getElem_mem _)
          have HSN : Hid (∀ u : Nat, ofL L x.val = (u : Int) → orL q ((pre ++ [x]).map (fun x => ofL L x.val)) = orL q (pre.map (fun x => ofL L x.val)) ||| 1 <<< u) := fun u hu => by
            rw [List.map_append]; show orL q (_ ++ [ofL L x.val]) = _
            rw [orL_snoc, hu, Int.toNat_natCast]
          have hf := hI5.frozen
          have hc := hI5.cell
          obtain ⟨u, hu⟩ := Int.eq_ofNat_of_zero_le hz.1
          rw [hu] at q5 hz
          have HN := Lib.hid (HSN.out u hu)
          have HS := Lib.hid (setw_is hpre (show u < 6 by omega))
          have hI6 := hI5.set_ ((orL q (pre.map (fun x => ofL L x.val)) ||| 1 <<< u : Nat) : Int)
          have hG6 := gb_then hG5 (grownBy_setCell' V (w.heap.size + 1) (.int .i64 ((orL q (pre.map (fun x => ofL L x.val)) ||| 1 <<< u : Nat) : Int))) (fun g e => .inr (by cases e; rfl))
          generalize orL q (pre.map (fun x => ofL L x.val)) = r at *
          have hG7 : W4.grownBy (V.setCell ⟨w.heap.size + 1, 0, none⟩ (.int .i64 ((r ||| 1 <<< u : Nat) : Int))).drew (some (w.heap.size + 1)) := ⟨hG6.os, hG6.tape, hG6.output, hG6.size, hG6.block⟩
          clear hstV hst HSN hu
          gi_wp2
          gi_region_with_o (fail)
          all_goals gi_wp2
          all_goals rw [HS.out]
          all_goals exact ⟨((KeepsOthers.setCell _ _ _).trans (KeepsOthers.drew _)).from _, ⟨fun j _ _ => Below.heap_setCell _ _ _ _ (by simp; omega), Below.heap_setCell _ _ _ _ (by simp; omega)⟩, by rw [HN.out]; exact hI6, hG7⟩
        case done =>
          rintro D ys V hDlo hys ⟨hI5, hG5⟩ hK
          have hyl : ys.map (fun x => ofL L x.val) = L := by
            have : ys.map (fun x => ofL L x.val) = (ys.map (·.val)).map (ofL L) := by rw [List.map_map]; rfl
            rw [this, hys]; exact LT_ofL rfl
          rw [hyl] at hI5
          obtain ⟨i1, hj, hj0, hj1, hj2⟩ := info_parts info_way
          have hGV : W.grownBy V (some (w.heap.size + 1)) := gb_then (gb_weak hG4 _) hG5 (fun g e => .inr (by cases e; rfl))
          have hWWV := hWW.grown hGV hmb
          have hDV : Dfs w1.heap.size (D :: Ds) V := by
            have h0 := Dfs.grown hD hGV HI.out
            refine ⟨List.nodup_cons.2 ⟨fun hm => ?_, h0.1⟩, fun E hE => ?_⟩
            · have := hD.lt D hm; omega
            · rcases List.mem_cons.1 hE with rfl | hE
              · exact ⟨by omega, hK⟩
              · exact h0.2 E hE
          have hRV := hR4.same (W' := V) (fun j h1 h2 => hG5.block j (by omega) (by simp; omega))
          have h7 := hB7.same (hG5.block W2.heap.size (by omega) (by simp; omega))
          have c70 := B2.c0 h7
          have c71 := B2.c1 h7
          have hVs := hG5.size
          have hGa := gb_then (gb_then hG hGV (fun g e => .inr (by cases e; rfl))) (gb_weak (World.grownBy_alloc V (.cells #[.int .i64 (kd : Int), .pointer (some ⟨b, 0, none⟩)] 58) none) none) (fun g e => by cases e)
          have hpl : ps.length ≤ 12 := by
            have e1 := congrArg List.length HPS.out
            rw [List.length_map] at e1
            have e2 := goK_len F n ((stL n m).take t) []
            rw [List.length_take] at e2
            simp at e2
            omega
          have p1 : ps.length + 1 ≤ maxLen := by unfold maxLen; omega
          have p2 : (ps.length + 1) * 16 ≤ 140737488355328 := by omega
          have p3 : w1.heap.size ≤ (V.alloc (.cells #[.int .i64 (kd : Int), .pointer (some ⟨b, 0, none⟩)] 58)).heap.size := by simp; omega
          have hrow := hWWV.1.alloc (.cells #[.int .i64 (kd : Int), .pointer (some ⟨b, 0, none⟩)] 58)
          gi_wp2_with (gi_at_builtin; refine wpListIn_append_own _ rfl _ _ 46 rfl w1.heap.size 58 i1 (.agg #[.int .i64 0, .pointer none]) 2 16 Try.underlying46 hj hj0 hj1 hj2 rfl (by decide) _ _ _ rfl hrow ⟨V.heap.size, 0, none⟩ 1 1 [.int .i64 (kd : Int), .pointer (some ⟨b, 0, none⟩)] rfl rfl (cell_two_new _ _ _ _) (by simp [Value.oneCell']) p1 p2 p3 ?_; intro v' W6 hown' hgrow _)
          refine ⟨⟨t + 1, ps ++ [((kd, L), b)], v', D :: Ds, _, _, _, _, _, _, _, _, _, _, _, _, _, _, _, _, _, _, _, _, _, _, _, _, _, _, _, _, _, _, rfl, by omega, ?_, ?_, ?_, ?_, ?_⟩, ?_⟩
          · rw [HGO.out, HQ]; simp
          · exact gb_then hGa hgrow (fun g e => .inl (hWWV.1.lt g e).1)
          · show Ib W6 (w.heap.size + 1) ((orK ((ps ++ [((kd, L), b)]).map (·.1)) : Nat) : Int)
            have e1 : orK ((ps ++ [((kd, L), b)]).map (·.1)) = orL q L := by
              rw [HOR.out]; unfold orK lsK; simp [orSS]
            rw [e1]
            have h5 := hI5
            obtain ⟨c, hb5, _⟩ := h5
            exact World.rowIs.of_block hI5 (heap_keep_e hb5 (fun cur e => by simp at e) hWWV.1 hgrow)
          · exact hWWV.app ⟨hlen.1, Nat.le_trans hWs hbb, hRV⟩ hown' hgrow
          · exact Dfs.same hDV (fun k hk => heap_keep_e hk (fun cur e => by cases e) hWWV.1 hgrow)
          · simp [intOf]; omega
        case stop =>
          rintro D c pre V _ _ h _
          exact h.elim
      · have HB := Lib.hid hbit
        rw [hbit] at HQ
        clear hbit
        gi_wp2_with fail
        refine ⟨trivial, (callsIn_wide.2 (hasPoint_any q (s : Int) hq64 (by omega) (by omega) W)).mono ?_⟩
        rintro e w' ⟨rfl, rfl⟩
        rw [Int.toNat_natCast, HB.out]
        gi_wp2
        refine ⟨⟨t + 1, ps, v, Ds, _, _, _, _, _, _, _, _, _, _, _, _, _, _, _, _, _, _, _, _, _, _, _, _, _, _, _, _, _, _, rfl, by omega, ?_, hG, ?_, hWW, hD⟩, ?_⟩
        · rw [HGO.out, HQ]; rfl
        · show Ib W (w.heap.size + 1) ((orSS 0 (lsK (ps.map (·.1))) : Nat) : Int)
          rw [← HOR.out]; exact HI.out
        · simp [intOf]; omega
    · obtain rfl : t = N + 1 := by omega
      have hBW : Below w.heap.size w W := hB1.grown hG (by omega) (fun g e => by cases e; omega)
      have HPS : Hid (ps.map (·.1) = goK F n (stL n m) []) := by show _ = _; rw [hps, List.take_of_length_le (by rw [HL.out]; omega)]
      clear hps hA hG hI hcl hA1 hI1
      gi_wp2
      refine dfs_leave w1.heap.size (fun V => WW V w1.heap.size ps v ∧ Below w.heap.size w V) ?_ ?_ Ds W hD ⟨hWW, hBW⟩
      · rintro V D hlo hV ⟨h1, h2⟩
        exact ⟨h1.put hV, h2.trans ((Below.refl _ V).grown (grownBy_putObj' V D _) (by have := h2.size; omega) (fun g e => by cases e; omega))⟩
      · rintro V ⟨h1, h2⟩
        exact ⟨_, results_tmp rfl _ _ _, v, ps, rfl, HPS.out, ⟨own_le h1.1 (by omega), fun p hp => ⟨(h1.2 p hp).1, by have := (h1.2 p hp).2.1; omega, (h1.2 p hp).2.2⟩⟩, h2⟩
end

/-! impl.WaysOf. -/
section
open Go.RowKit

theorem OSS.nil (w : World) (lo hi : Nat) : OSS w lo hi (.slice none 0 0) [] := ⟨[], World.ownsRow_nil _ _ _ _, (fun g hg => by cases hg), Inn.nil⟩
theorem lsK_wL {zs : List Int} (hC : isC zs = true) : lsK (goK (ofL zs) zs.length (stL zs.length (raN zs)) []) = waysL zs := by
  rw [go_all (isC_CH hC) (raN_range hC), lsK_kw]
  simp [waysL, chainsL, cyclesL, hC]
theorem ways_ne {zs : List Int} (hC : isC zs = true) : 1 ≤ (waysL zs).length := by
  have h := ways_once (isC_CH hC) (raN_range hC) (show 0 < zs.length from (isC_CH hC).one)
  have e : waysL zs = chL (ofL zs) zs.length (raN zs) zs.length ++ cyL (ofL zs) zs.length (orSS 0 (chL (ofL zs) zs.length (raN zs) zs.length)) zs.length := by simp [waysL, chainsL, cyclesL, hC]
  rw [← e] at h
  cases hw : waysL zs with
  | nil => rw [hw] at h; simp [occ] at h
  | cons a b => simp
theorem raN_is {zs : List Int} (hC : isC zs = true) : raN zs = domL (mv (turnL zs.length (mv (ofL zs) zs.length)) zs.length) := by unfold raN; rw [mvT_yes hC, fk_yes hC]

set_option maxHeartbeats 2000000 in
/-- the ways of the chart of no points -/
theorem ways0_any (T : Nat → Int) (w : World) : Calls Try.prog 33 #[.agg #[.int .i64 (((0 : Nat) : Int)), .int .i64 (T 0), .int .i64 (T 1), .int .i64 (T 2), .int .i64 (T 3), .int .i64 (T 4), .int .i64 (T 5)]] w fun e w' => e = .returned (.slice none 0 0) ∧ Below w.heap.size w w' := by
  have hB0 : Below w.heap.size w ((w.alloc (.cells #[.int .i64 (((0 : Nat) : Int)), .int .i64 (T 0), .int .i64 (T 1), .int .i64 (T 2), .int .i64 (T 3), .int .i64 (T 4), .int .i64 (T 5)] 50)).alloc (.cells #[.int .i64 0] 3)) := ((Below.refl _ w).alloc (Nat.le_refl _) _).alloc (by simp) _
  refine (callsIn_wide (n := 3)).1 ?_
  refine callsIn_of_wp_marks Try.func33 rfl trivial ?_ rfl
  simp only [Try.ntmps33, List.size_toArray, List.length_cons, List.length_nil, Nat.reduceAdd, Nat.reduceSub, Array.replicate_succ, Array.replicate_zero, List.push_toArray, List.append_toArray, List.nil_append, List.cons_append]
  gi_wp2_with fail
  refine ⟨trivial, (callsIn_wide.2 (starts_any 0 (by omega) T (fun j hj => by omega) _ rfl _)).mono ?_⟩
  rintro e w1 ⟨vs, rfl, hN, hb⟩
  have hB1 : Below w.heap.size w w1 := hB0.trans (hb.mono hB0.size)
  have hN' : w1.ownsRow ((w.alloc (.cells #[.int .i64 (((0 : Nat) : Int)), .int .i64 (T 0), .int .i64 (T 1), .int .i64 (T 2), .int .i64 (T 3), .int .i64 (T 4), .int .i64 (T 5)] 50)).alloc (.cells #[.int .i64 0] 3)).heap.size 3 1 vs 0 [] := hN
  obtain ⟨A, c, rfl⟩ : ∃ A c, vs = .slice A 0 c := by
    rcases hN'.2 with ⟨rfl, _⟩ | ⟨g, cap, cur, rfl, _⟩
    · exact ⟨_, _, rfl⟩
    · exact ⟨_, _, rfl⟩
  clear hN hN' hb hB0
  gi_wp2
  refine wpIn_loop_rounds 1 ?_
  rw [roundsIn_succ]
  gi_wp2
  refine ⟨_, results_tmp rfl _ _ _, rfl, hB1⟩

set_option maxHeartbeats 4000000 in
theorem implWays_any (A : Option Addr) (n c : Nat) (zs : List Int) (w : World) (h : RI w A n zs) (hn : n ≤ 1048576) :
    Calls Try.prog 16 #[.slice A n c] w fun e w' => ∃ v, e = .returned (.tuple #[v, .bool (isC zs)]) ∧ OSS w' w.heap.size w'.heap.size v (waysL zs) ∧ Below w.heap.size w w' := by
  cases hC : isC zs
  · have HL : Hid (waysL zs = []) := by show _ = _; simp [waysL, chainsL, cyclesL, hC]
    have HC := Lib.hid hC
    clear hC
    go_enter Try.func16, Try.ntmps16
    go_wp2_with fail
    refine (chartOf_any _ _ _ _ _ h).mono ?_
    rintro e w1 ⟨m, T, rfl, hy, hno, hb⟩
    rw [HC.out]
    obtain rfl := (hno HC.out).1
    have hB := hb.alloc hb.size (.cells #[.int .i64 (((0 : Nat) : Int)), .int .i64 (T 0), .int .i64 (T 1), .int .i64 (T 2), .int .i64 (T 3), .int .i64 (T 4), .int .i64 (T 5)] 50)
    have hP := Cb.new w1 ((0 : Nat) : Int) T
    obtain ⟨a0, a1, a2, a3, a4, a5, a6⟩ := hP.all
    clear hy hno hb hP
    go_wp2_with fail
    refine (ways0_any T _).mono ?_
    rintro e w2 ⟨rfl, hb2⟩
    have hB2 := hB.trans (hb2.mono hB.size)
    clear hB hb2 a0 a1 a2 a3 a4 a5 a6
    go_wp2
    go_loopw [6, 17] (fun v i wr => v = .slice none 0 0 ∧ i = .int .i64 0 ∧ wr = w2) (fun _ _ _ => 0)
    case atStart => exact ⟨rfl, rfl, rfl⟩
    case round =>
      obtain ⟨rfl, rfl, rfl⟩ := hrel
      go_wp2
      go_ret2
      exact ⟨_, rfl, by rw [HL.out]; exact OSS.nil _ _ _, hB2⟩
  · have hF := isC_CH hC
    have HC := Lib.hid hC
    have HL := Lib.hid (lsK_wL hC)
    have hwne := ways_ne hC
    have hra := raN_is hC
    obtain ⟨i1, hj, hj0, hj1, hj2⟩ := info_parts info_partsS
    clear hC
    go_enter Try.func16, Try.ntmps16
    go_wp2_with fail
    refine (chartOf_any _ _ _ _ _ h).mono ?_
    rintro e w1 ⟨m, T, rfl, hy, hno, hb⟩
    rw [HC.out]
    obtain ⟨rfl, hT⟩ := hy HC.out
    rw [hT 0 (by omega), hT 1 (by omega), hT 2 (by omega), hT 3 (by omega), hT 4 (by omega), hT 5 (by omega)]
    have hB := hb.alloc hb.size (.cells #[.int .i64 ((zs.length : Int)), .int .i64 (ofL zs 0), .int .i64 (ofL zs 1), .int .i64 (ofL zs 2), .int .i64 (ofL zs 3), .int .i64 (ofL zs 4), .int .i64 (ofL zs 5)] 50)
    have hP := Cb.new w1 (zs.length : Int) (ofL zs)
    obtain ⟨a0, a1, a2, a3, a4, a5, a6⟩ := hP.all
    clear hy hno hb hP hT h hn HC
    generalize zs.length = N at *
    generalize raN zs = m at *
    go_wp2_with fail
    refine (ways_any N (ofL zs) hF m hra _).mono ?_
    rintro e w2 ⟨v, ps, rfl, hps, hWW, hb2⟩
    have hB2 := hB.trans (hb2.mono hB.size)
    rw [← hps] at HL
    have hlen : (waysL zs).length = ps.length := by rw [← HL.out]; simp [lsK]
    rw [hlen] at hwne
    obtain ⟨q, hq⟩ : ∃ q, ps.length = q + 1 := ⟨_, (Nat.sub_add_cancel hwne).symm⟩
    have hrow := hWW.1
    rw [hq] at hrow
    obtain ⟨g, cp, rfl⟩ : ∃ g c, v = .slice (some ⟨g, 0, none⟩) (q + 1) c := ownsRow_succ hrow
    have hql : q + 1 ≤ 1048576 := by have := (waysL_le zs).1; rw [hlen, hq] at this; omega
    clear hB hb2 a0 a1 a2 a3 a4 a5 a6
    go_wp2
    go_loopw [6, 17] (fun v i wr => ∃ t : Nat, t ≤ q + 1 ∧ i = .int .i64 (t : Int) ∧ OSS wr w2.heap.size wr.heap.size v ((waysL zs).take t) ∧ Below w2.heap.size w2 wr) (fun _ i _ => q + 1 - (intOf i).toNat)
    case atStart => exact ⟨0, by omega, rfl, OSS.nil _ _ _, Below.refl _ _⟩
    case round =>
      obtain ⟨t, ht, rfl, hO, hbr⟩ := hrel
      by_cases hlt : t < q + 1
      · obtain ⟨p, hp⟩ : ∃ p, ps[t]? = some p := ⟨_, List.getElem?_eq_getElem (by omega)⟩
        have hpm := hWW.2 p (List.mem_of_getElem? hp)
        have hcl := wc_get ps t p hp
        have hgl := (hWW.1.lt g rfl).2
        have c0 := (hbr.cell (p := (⟨g, 0, none⟩ : Addr).add (t * 2)) (by rw [block_of_add]; exact hgl)).trans (hWW.1.cells rfl _ _ hcl.1)
        have c1 := (hbr.cell (p := (⟨g, 0, none⟩ : Addr).add (t * 2 + 1)) (by rw [block_of_add]; exact hgl)).trans (hWW.1.cells rfl _ _ hcl.2)
        have ea : ∀ j, (⟨g, 0, none⟩ : Addr).add j = ⟨g, j, none⟩ := fun j => by unfold Addr.add; split <;> simp_all
        rw [ea] at c0 c1
        have HT : Hid ((waysL zs).take (t + 1) = (waysL zs).take t ++ [p.1.2]) := by
          show _ = _
          rw [← HL.out, List.take_add_one]
          simp [lsK, hp]
        have hring := hpm.2.2.below hbr (hpm.2.2.lt hpm.1)
        have hLb : p.1.2.length ≤ 1048576 := (waysL_le zs).2.2 _ (by rw [← HL.out]; exact List.mem_map.2 ⟨_, List.mem_map.2 ⟨_, List.mem_of_getElem? hp, rfl⟩, rfl⟩)
        obtain ⟨⟨kd, L⟩, b⟩ := p
        simp only at c0 c1 HT hring hpm hLb
        clear hcl hp
        go_wp2_with fail
        have hbe : Below wr.heap.size wr (wr.alloc (.cells #[.int .i64 (kd : Int), .pointer (some ⟨b, 0, none⟩)] 58)) := (Below.refl _ wr).alloc (Nat.le_refl _) _
        refine (wayList_any kd b L.length (ofL L) hpm.1 hLb _ (hring.below hbe (hring.lt hpm.1))).mono ?_
        rintro e w3 ⟨u, rfl, hown, hb3⟩
        rw [LT_ofL rfl, World.size_alloc] at hown
        rw [World.size_alloc] at hb3
        have hbw : Below wr.heap.size wr w3 := hbe.trans (hb3.mono (by omega))
        obtain ⟨vs, hrow0, hvb, hinn0⟩ := hO
        have htl : ((waysL zs).take t).length = t := by rw [List.length_take, hlen]; omega
        have hrow3 := own_below hrow0 hbw
        have hinn3 := (hinn0.below hbw).more (Nat.le_refl _) hbw.size
        have hu : OI w3 w2.heap.size w3.heap.size u L := OI.of (own_le hown (by have := hbr.size; omega))
        have hap : ∀ (i : Nat) (u' : Value), vs[i]? = some u' → ∀ q : Nat, u'.ownBlock = some q → u.ownBlock = some q → False := fun i u' hi q e1 e2 => by
          have h1 := hinn0.lt hi e1
          have h2 := hown.lt q e2
          omega
        obtain ⟨Au, cu, rfl⟩ := own_slice hown
        have hbr3 : Below w2.heap.size w2 w3 := hbr.trans (hbw.mono hbr.size)
        have p1 : ((waysL zs).take t).length + 1 ≤ maxLen := by rw [htl]; unfold maxLen; omega
        have p2 : (((waysL zs).take t).length + 1) * 24 ≤ 140737488355328 := by rw [htl]; omega
        have p3 : ∀ o : Obj, w2.heap.size ≤ (w3.alloc o).heap.size := fun o => by have := hbr3.size; simp; omega
        clear hinn0 hrow0 hown hb3 hbe hring hbw c0 c1
        go_wp2_with (at_builtin; refine wpList_append_own _ rfl _ _ 22 rfl w2.heap.size 24 i1 (.slice none 0 0) 1 24 Try.underlying22 hj hj0 hj1 hj2 rfl (by decide) _ _ _ rfl (hrow3.alloc _) ⟨w3.heap.size, 0, none⟩ 1 1 [.slice Au L.length cu] rfl rfl (cell_one_new _ _ _) (by simp [Value.oneCell']) p1 p2 (p3 _) ?_; intro v' w4 hown' hgrow _; have hO4 := OSS.app hrow3 hinn3 hu hap hown' hgrow; have hB4 := below_app hbr3 hrow3 (Nat.le_refl _) hgrow; clear hown' hgrow hrow3 hinn3 hu hap)
        exact ⟨⟨t + 1, by omega, by go_num, by rw [HT.out]; exact hO4, hB4⟩, by simp [intOf]; omega⟩
      · obtain rfl : t = q + 1 := by omega
        have HE : Hid ((waysL zs).take (q + 1) = waysL zs) := List.take_of_length_le (by omega)
        go_wp2
        go_ret2
        exact ⟨_, rfl, by rw [← HE.out]; exact hO.more hB2.size (Nat.le_refl _), hB2.trans (hbr.mono hB2.size)⟩
end

end Go.Proofs.Ytonoepggcgjfhaa
