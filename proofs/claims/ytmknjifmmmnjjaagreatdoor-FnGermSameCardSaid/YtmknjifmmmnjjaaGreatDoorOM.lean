/-
  OfQ.
-/
import Derived.ArgAppend
import Derived.Maps.AppendAt
import Derived.Deep.MidRow
import Derived.Deep.RegionLaw
import Derived.Test.YtmknjifmmmnjjaaGreatDoorME
namespace Go.Proofs.YtmknjifmmmnjjaaGreatDoor
set_option maxRecDepth 100000
set_option linter.unusedVariables false
set_option linter.unusedSimpArgs false
set_option linter.unusedSectionVars false

/-! A queue of lists: a slice of slices with an offset, in a block of the call's own; append onto it; its rows, read alone. -/
section
open Go.RowKit

theorem step_app_at {P : Program} (w : World) {ops : Array Oper} {o : Oper} {a : Act} {K : Act → World → Prop} {Q : Exit → Act → World → Prop} {E : Prop}
    (hg : o.guard = none) (s x : Operand) (t : TypeId) (hop : o.op = Op.call { callee := Callee.builtin Builtin.append, args := #[s, x], argTypes := #[t, t] })
    (base : Nat) (e : TypeId) (i : TypeInfo) (z : Value) (size bytes : Nat) (h1 : P.underlying t = some (.slice e)) (h2 : P.info? e = some i) (h3 : i.zero = some z) (h4 : i.size = size) (h5 : i.bytes = bytes) (h6 : z.cells.size = size) (h7 : 0 < size)
    (v : Value) (k : Nat) (xs : List Value) (hs : a.eval s = v) (hown : w.ownsRow base e size v k xs) (ad : Addr) (m c : Nat) (news : List Value) (hx : a.eval x = .slice (some ad) m c) (hn : news.length = m * size)
    (hc : ∀ j u, news[j]? = some u → w.cell? (ad.add j) = some u) (h1c : ∀ u ∈ news, u.oneCell' = true) (b1 : k + m ≤ maxLen) (b2 : (k + m) * bytes ≤ 140737488355328) (b3 : base ≤ w.heap.size)
    (hK : ∀ v' w', w'.ownsRow base e size v' (k + m) (xs ++ news) → w.grownBy w' v.ownBlock → (v' = .slice none 0 0 ↔ v = .slice none 0 0 ∧ m = 0) → (v'.ownBlock = v.ownBlock ∨ v'.ownBlock = some w.heap.size) → K (a.put o.dst v') w') :
    if Region.wanted o (yielded ops a.tmps) = true then Oper.wp P o a w K Q else E := by
  have hw : Region.wanted o (yielded ops a.tmps) = true := by simp [Region.wanted, hg]
  rw [if_pos hw]
  obtain ⟨v', w', hrun, r1, r2, r3, r4⟩ := run_append_own_at (P := P) w base t o.type e i z size bytes h1 h2 h3 h4 h5 h6 h7 v k xs hown ad m c news hn hc h1c b1 b2 b3
  unfold Oper.wp
  simp [execOp, hop, resolve, invoke, builtin, hs, hx, hrun, Result.andThen]
  exact hK v' w' r1 r2 r3 r4

/-- a slice of the call's own, at some place of its block -/
def Rq (w : World) (base : Nat) (v : Value) (n : Nat) (xs : List Value) : Prop :=
  xs.length = n ∧ ∃ g o cap cur, v = .slice (some ⟨g, o, none⟩) n cap ∧ base ≤ g ∧ w.heap[g]? = some (.cells cur 24 (0, 0)) ∧ n ≤ cap ∧ cap ≤ maxLen ∧ o + cap ≤ cur.size ∧ ∀ (j : Nat) (u : Value), xs[j]? = some u → cur[o + j]? = some u
section
variable {w w' : World} {base : Nat} {v : Value} {n : Nat} {xs : List Value}
theorem Rq.lt (h : Rq w base v n xs) : ∀ k, v.ownBlock = some k → base ≤ k ∧ k < w.heap.size := by
  obtain ⟨_, g, o, cap, cur, rfl, hb, hg, _⟩ := h
  intro k hk
  have : g = k := by simpa [Value.ownBlock] using hk
  subst this
  exact ⟨hb, (Array.getElem?_eq_some_iff.1 hg).1⟩
theorem Rq.of_own (h : w.ownsRow base 24 1 v n xs) (hv : v ≠ .slice none 0 0) : Rq w base v n xs := by
  refine ⟨by simpa using h.1, ?_⟩
  rcases h.2 with ⟨e, _⟩ | ⟨g, cap, cur, rfl, hb, hg, hnc, hcm, hcs, ht⟩
  · exact absurd e hv
  · refine ⟨g, 0, cap, cur, rfl, hb, hg, hnc, hcm, by omega, fun j u hu => ?_⟩
    rw [← ht, List.getElem?_take] at hu
    split at hu
    · simpa using hu
    · cases hu
theorem Rq.kept {row : Option Nat} (h : Rq w base v n xs) (hg : w.grownBy w' row) (hne : v.ownBlock ≠ row) : Rq w' base v n xs := by
  obtain ⟨h1, g, o, cap, cur, rfl, hb, hh, hr⟩ := h
  exact ⟨h1, g, o, cap, cur, rfl, hb, by rw [hg.block g (Array.getElem?_eq_some_iff.1 hh).1 (by simpa [Value.ownBlock] using hne)]; exact hh, hr⟩
theorem Rq.below (h : Rq w base v n xs) (hb : Below w.heap.size w w') : Rq w' base v n xs := by
  obtain ⟨h1, g, o, cap, cur, rfl, hg, hh, hr⟩ := h
  exact ⟨h1, g, o, cap, cur, rfl, hg, by rw [hb.block g (Array.getElem?_eq_some_iff.1 hh).1]; exact hh, hr⟩
theorem Rq.form (h : Rq w base v n xs) : ∃ g o cap, v = .slice (some ⟨g, o, none⟩) n cap ∧ base ≤ g ∧ g < w.heap.size ∧ n ≤ cap ∧ ∀ (j : Nat) (u : Value), xs[j]? = some u → w.cell? ((⟨g, o, none⟩ : Addr).add j) = some u := by
  obtain ⟨h1, g, o, cap, cur, rfl, hg, hh, hnc, hcm, hoc, hc⟩ := h
  refine ⟨g, o, cap, rfl, hg, (Array.getElem?_eq_some_iff.1 hh).1, hnc, fun j u hu => ?_⟩
  rw [Addr.add_mid, cell_of_row w g _ cur 24 (0, 0) hh]
  exact hc j u hu
/-- without its first -/
theorem Rq.pop {g o cap : Nat} {x : Value} (h : Rq w base (.slice (some ⟨g, o, none⟩) (n + 1) cap) (n + 1) (x :: xs)) : ∃ o', (if cap = 1 then some (⟨g, o, none⟩ : Addr) else some (⟨g, o + 1, none⟩ : Addr)) = some ⟨g, o', none⟩ ∧ Rq w base (.slice (some ⟨g, o', none⟩) n (cap - 1)) n xs := by
  obtain ⟨h1, g', o', cap', cur, hv, hg, hh, hnc, hcm, hoc, hc⟩ := h
  injection hv with e1 e2 e3
  injection e1 with e1
  injection e1 with e4 e5 e6
  subst e3 e4 e5
  have hl : xs.length = n := by simpa using h1
  by_cases e : cap = 1
  · subst e
    refine ⟨o, by rw [if_pos rfl], hl, g, o, 0, cur, rfl, hg, hh, by omega, by omega, by omega, fun j u hu => ?_⟩
    have : j < xs.length := (List.getElem?_eq_some_iff.1 hu).1
    omega
  · refine ⟨o + 1, by rw [if_neg e], hl, g, o + 1, cap - 1, cur, rfl, hg, hh, by omega, by omega, by omega, fun j u hu => ?_⟩
    have := hc (j + 1) u (by simpa using hu)
    rw [show o + 1 + j = o + (j + 1) by omega]; exact this
end

section
variable {P : Program} (w : World)
theorem run_append_q (base : Nat) (t ty : TypeId) (i : TypeInfo) (z : Value) (bytes : Nat) (ht : P.underlying t = some (.slice 24)) (hi : P.info? 24 = some i) (hz : i.zero = some z) (hsize : i.size = 1) (hby : i.bytes = bytes) (hzs : z.cells.size = 1)
    (v : Value) (n : Nat) (xs : List Value) (hown : Rq w base v n xs) (a : Addr) (m c : Nat) (news : List Value) (hl : news.length = m) (hnews : ∀ j u, news[j]? = some u → w.cell? (a.add j) = some u) (h1 : ∀ u ∈ news, u.oneCell' = true)
    (hm : 0 < m) (h63 : n + m ≤ maxLen) (hbytes : (n + m) * bytes ≤ 140737488355328) (hbase : base ≤ w.heap.size) :
    ∃ v' w', (Builtin.append_ #[t, t] ty #[v, .slice (some a) m c]).run P w = .ok v' w' ∧ Rq w' base v' (n + m) (xs ++ news) ∧ w.grownBy w' v.ownBlock ∧ (v'.ownBlock = v.ownBlock ∨ ∀ g, v'.ownBlock = some g → w.heap.size ≤ g) := by
  have hown' := hown
  obtain ⟨hx, g, o, cap, cur, rfl, hbg, hg, hnc, hcm, hoc, hcell⟩ := hown
  by_cases hroom : n + m ≤ cap
  · have hf := run_firstCells_some (P := P) w i.size m a m c news (by rw [hsize, hl]; omega) hnews
    have hst := run_storeCells_at P g (o + n * i.size) 24 news 0 cur w hg (by rw [hsize, hl]; omega) h1
    simp only [Nat.add_zero] at hst
    refine ⟨.slice (some ⟨g, o, none⟩) (n + m) cap, w.setRow g (cur.toList.take (o + n * i.size) ++ news ++ cur.toList.drop (o + n * i.size + news.length)).toArray, ?_, ?_, ⟨rfl, rfl, rfl, by simp, fun k _ hk => setRow_other w g k _ (fun e => hk (by simp [Value.ownBlock, e]))⟩, .inl rfl⟩
    · simp [Builtin.append_, run_underlying ht, sizeOf, typeInfo, hi, Builtin.lenOf, hroom, hf, Addr.add_lit, hst]
    · rw [hsize, Nat.mul_one]
      have hlt : (cur.toList.take (o + n)).length = o + n := by rw [List.length_take, Array.length_toList]; omega
      refine ⟨by rw [List.length_append, hx, hl], g, o, cap, _, rfl, hbg, setRow_heap w g cur _ 24 _ hg, hroom, hcm, ?_, fun j u hu => ?_⟩
      · simp only [List.size_toArray, List.length_append, List.length_drop, Array.length_toList, hlt, hl]
        omega
      · rw [List.getElem?_toArray]
        by_cases hj : j < n
        · rw [List.getElem?_append_left (by omega)] at hu
          rw [List.getElem?_append_left (by rw [List.length_append, hlt]; omega), List.getElem?_append_left (by rw [hlt]; omega), List.getElem?_take, if_pos (by omega)]
          simpa using hcell j u hu
        · rw [List.getElem?_append_right (by omega), hx] at hu
          have hjm : j - n < news.length := (List.getElem?_eq_some_iff.1 hu).1
          rw [List.getElem?_append_left (by rw [List.length_append, hlt]; omega), List.getElem?_append_right (by rw [hlt]; omega), hlt, show o + j - (o + n) = j - n by omega]
          exact hu
  · have holds : ∀ j u, xs[j]? = some u → w.cell? ((⟨g, o, none⟩ : Addr).add j) = some u := fun j u hu => by
      rw [Addr.add_mid, cell_of_row w g _ cur 24 (0, 0) hg]
      exact hcell j u hu
    obtain ⟨v', w', hr, hrow, hgr⟩ := run_append_arg_grows (P := P) w t ty 24 i z 1 bytes ht hi hz hsize hby hzs (by decide) ⟨g, o, none⟩ n cap xs (by omega) holds a m c news (by omega) hnews (by omega) h63 hbytes
    refine ⟨v', w', hr, ?_, ⟨hgr.os, hgr.tape, hgr.output, hgr.size, fun k hk _ => hgr.block k hk (by simp)⟩, .inr fun g' hg' => (hrow.lt g' hg').1⟩
    have hne : v' ≠ .slice none 0 0 := fun e => by
      rcases hrow.2 with ⟨_, h0⟩ | ⟨_, _, _, h1, _⟩
      · omega
      · rw [e] at h1; cases h1
    obtain ⟨k1, g', o', cap', cur', k2, k3, kr⟩ := Rq.of_own hrow hne
    exact ⟨k1, g', o', cap', cur', k2, by omega, kr⟩
theorem step_append_q {ops : Array Oper} {o : Oper} {a : Act} {K : Act → World → Prop} {Q : Exit → Act → World → Prop} {E : Prop}
    (hgd : o.guard = none) (s x : Operand) (t : TypeId) (hop : o.op = Op.call { callee := Callee.builtin Builtin.append, args := #[s, x], argTypes := #[t, t] })
    (base : Nat) (i : TypeInfo) (z : Value) (bytes : Nat) (ht : P.underlying t = some (.slice 24)) (hi : P.info? 24 = some i) (hz : i.zero = some z) (hsize : i.size = 1) (hby : i.bytes = bytes) (hzs : z.cells.size = 1)
    (v : Value) (n : Nat) (xs : List Value) (hs : a.eval s = v) (hown : Rq w base v n xs) (ad : Addr) (m c : Nat) (news : List Value) (hx : a.eval x = .slice (some ad) m c) (hl : news.length = m) (hnews : ∀ j u, news[j]? = some u → w.cell? (ad.add j) = some u) (h1 : ∀ u ∈ news, u.oneCell' = true)
    (hm : 0 < m) (h63 : n + m ≤ maxLen) (hbytes : (n + m) * bytes ≤ 140737488355328) (hbase : base ≤ w.heap.size)
    (hK : ∀ v' w', Rq w' base v' (n + m) (xs ++ news) → w.grownBy w' v.ownBlock → (v'.ownBlock = v.ownBlock ∨ ∀ g, v'.ownBlock = some g → w.heap.size ≤ g) → K (a.put o.dst v') w') :
    if Region.wanted o (yielded ops a.tmps) = true then Oper.wp P o a w K Q else E := by
  have hw : Region.wanted o (yielded ops a.tmps) = true := by simp [Region.wanted, hgd]
  rw [if_pos hw]
  obtain ⟨v', w', hrun, r1, r2, r3⟩ := run_append_q (P := P) w base t o.type i z bytes ht hi hz hsize hby hzs v n xs hown ad m c news hl hnews h1 hm h63 hbytes hbase
  unfold Oper.wp
  simp [execOp, hop, resolve, invoke, builtin, hs, hx, hrun, Result.andThen]
  exact hK v' w' r1 r2 r3
end

theorem wpList_append_q {P : Program} (w : World) {ops : Array Oper} {rest : List Oper} {o : Oper} {a : Act} {Q : Exit → Act → World → Prop}
    (hgd : o.guard = none) (s x : Operand) (t : TypeId) (hop : o.op = Op.call { callee := Callee.builtin Builtin.append, args := #[s, x], argTypes := #[t, t] })
    (base : Nat) (i : TypeInfo) (z : Value) (bytes : Nat) (ht : P.underlying t = some (.slice 24)) (hi : P.info? 24 = some i) (hz : i.zero = some z) (hsize : i.size = 1) (hby : i.bytes = bytes) (hzs : z.cells.size = 1)
    (v : Value) (n : Nat) (xs : List Value) (hs : a.eval s = v) (hown : Rq w base v n xs) (ad : Addr) (m c : Nat) (news : List Value) (hx : a.eval x = .slice (some ad) m c) (hl : news.length = m) (hnews : ∀ j u, news[j]? = some u → w.cell? (ad.add j) = some u) (h1 : ∀ u ∈ news, u.oneCell' = true)
    (hm : 0 < m) (h63 : n + m ≤ maxLen) (hbytes : (n + m) * bytes ≤ 140737488355328) (hbase : base ≤ w.heap.size)
    (hK : ∀ v' w', Rq w' base v' (n + m) (xs ++ news) → w.grownBy w' v.ownBlock → (v'.ownBlock = v.ownBlock ∨ ∀ g, v'.ownBlock = some g → w.heap.size ≤ g) → wpList P ops Q rest (a.put o.dst v') w') :
    wpList P ops Q (o :: rest) a w := by
  refine wpList_plain hgd fun K hK' => ?_
  obtain ⟨v', w', hrun, r1, r2, r3⟩ := run_append_q (P := P) w base t o.type i z bytes ht hi hz hsize hby hzs v n xs hown ad m c news hl hnews h1 hm h63 hbytes hbase
  unfold Oper.wp
  simp [execOp, hop, resolve, invoke, builtin, hs, hx, hrun, Result.andThen]
  exact hK' _ _ (hK v' w' r1 r2 r3)

/-- rows that are read alone; none lies in the block of v -/
def Qs (w : World) (v : Value) (vs : List Value) (Ls : List (List Int)) : Prop :=
  vs.length = Ls.length ∧ ∀ (i : Nat) (L : List Int), Ls[i]? = some L → ∃ (Ai : Option Addr) (ci : Nat), vs[i]? = some (.slice Ai L.length ci) ∧ RI w Ai L.length L ∧ ∀ ad, Ai = some ad → v.ownBlock ≠ some ad.block
theorem RI.grown {w w' : World} {A : Option Addr} {n : Nat} {zs : List Int} {row : Option Nat} (h : RI w A n zs) (hg : w.grownBy w' row) (hne : ∀ ad, A = some ad → row ≠ some ad.block) : RI w' A n zs := by
  refine ⟨h.1, h.2.1, fun hn => ?_⟩
  obtain ⟨ad, e, hb, hc⟩ := h.2.2 hn
  refine ⟨ad, e, Nat.lt_of_lt_of_le hb hg.size, fun j u hu => ?_⟩
  rw [World.cell?_of_block (hg.block _ (by rw [block_of_add]; exact hb) (fun e' => hne ad e (by rw [← e', block_of_add])))]
  exact hc j u hu
section
variable {w w' : World} {v v' : Value} {vs : List Value} {Ls : List (List Int)}
theorem Qs.below (h : Qs w v vs Ls) (hb : Below w.heap.size w w') : Qs w' v vs Ls :=
  ⟨h.1, fun i L hL => by
    obtain ⟨Ai, ci, h1, h2, h3⟩ := h.2 i L hL
    exact ⟨Ai, ci, h1, h2.below hb, h3⟩⟩
theorem Qs.tail {u : Value} {L : List Int} (h : Qs w v (u :: vs) (L :: Ls)) : Qs w v vs Ls :=
  ⟨by simpa using h.1, fun i M hM => h.2 (i + 1) M (by simpa using hM)⟩
theorem Qs.val (h : Qs w v vs Ls) (e : v'.ownBlock = v.ownBlock) : Qs w v' vs Ls :=
  ⟨h.1, fun i L hL => by
    obtain ⟨Ai, ci, h1, h2, h3⟩ := h.2 i L hL
    exact ⟨Ai, ci, h1, h2, fun ad ha => by rw [e]; exact h3 ad ha⟩⟩
/-- behind an append to v itself -/
theorem Qs.grown (h : Qs w v vs Ls) (hl : ∀ L ∈ Ls, 0 < L.length) (hg : w.grownBy w' v.ownBlock) (hat : v'.ownBlock = v.ownBlock ∨ ∀ g, v'.ownBlock = some g → w.heap.size ≤ g) : Qs w' v' vs Ls :=
  ⟨h.1, fun i L hL => by
    obtain ⟨Ai, ci, h1, h2, h3⟩ := h.2 i L hL
    refine ⟨Ai, ci, h1, h2.grown hg h3, fun ad ha => ?_⟩
    rcases hat with e | e
    · rw [e]; exact h3 ad ha
    · intro e'
      obtain ⟨ad', ea, hb, _⟩ := h2.2.2 (hl L (List.mem_of_getElem? hL))
      rw [ha] at ea; injection ea with ea; subst ea
      have := e _ e'
      omega⟩
theorem Qs.snoc {Ai : Option Addr} {ci : Nat} {L : List Int} (h : Qs w v vs Ls) (hr : RI w Ai L.length L) (hne : ∀ ad, Ai = some ad → v.ownBlock ≠ some ad.block) : Qs w v (vs ++ [.slice Ai L.length ci]) (Ls ++ [L]) := by
  refine ⟨by simp [h.1], fun i M hM => ?_⟩
  by_cases hi : i < Ls.length
  · rw [List.getElem?_append_left hi] at hM
    obtain ⟨Aj, cj, h1, h2, h3⟩ := h.2 i M hM
    exact ⟨Aj, cj, by rw [List.getElem?_append_left (by rw [h.1]; exact hi)]; exact h1, h2, h3⟩
  · have hl : i < (Ls ++ [L]).length := (List.getElem?_eq_some_iff.1 hM).1
    have he : i = Ls.length := by simp at hl; omega
    subst he
    rw [List.getElem?_append_right (Nat.le_refl _), Nat.sub_self] at hM
    simp at hM; subst hM
    exact ⟨Ai, ci, by rw [List.getElem?_append_right (by rw [h.1]; exact Nat.le_refl _), h.1, Nat.sub_self]; rfl, hr, hne⟩
theorem Qs.one (h : Qs w v vs Ls) : ∀ u ∈ vs, u.oneCell' = true := fun u hu => by
  obtain ⟨i, hi, rfl⟩ := List.getElem_of_mem hu
  obtain ⟨Ai, ci, h1, _⟩ := h.2 i _ (List.getElem?_eq_getElem (show i < Ls.length by rw [← h.1]; exact hi))
  rw [List.getElem?_eq_getElem hi] at h1
  injection h1 with h1
  rw [h1]; rfl
end
end

end Go.Proofs.YtmknjifmmmnjjaaGreatDoor
