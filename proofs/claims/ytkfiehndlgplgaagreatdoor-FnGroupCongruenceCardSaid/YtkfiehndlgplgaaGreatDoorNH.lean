/-
  Val.
-/
import Derived.RangeFuncBox
import Derived.Test.YtkfiehndlgplgaaGreatDoorMA
import Derived.Test.YtkfiehndlgplgaaGreatDoorMV
import Derived.Test.YtkfiehndlgplgaaGreatDoorVA
namespace Go.Proofs.YtkfiehndlgplgaaGreatDoor
set_option maxRecDepth 100000
set_option linter.unusedVariables false
set_option linter.unusedSimpArgs false
set_option linter.unusedSectionVars false

/-! slices.Values, slices.AppendSeq, slices.Collect over a row of charts: a row of its own with the same charts. -/
section
open Go.RowKit Go.Shelf
attribute [local go_sem] Oper.semAt_some

abbrev encC (m : Nat) (L : List Int) : Array Value := #[.agg #[.int .i64 ((m : Int)), .int .i64 (ofL L 0), .int .i64 (ofL L 1), .int .i64 (ofL L 2), .int .i64 (ofL L 3), .int .i64 (ofL L 4), .int .i64 (ofL L 5)]]
/-- what a round's body owes: the row and the box of the slice's value lie as they lay -/
def Kv (g sb : Nat) (W W' : World) : Prop := W'.heap[g]? = W.heap[g]? ∧ W'.heap[sb]? = W.heap[sb]?
theorem Kv_t {g sb : Nat} {A B C : World} (h : Kv g sb A B) (k : Kv g sb B C) : Kv g sb A C := ⟨k.1.trans h.1, k.2.trans h.2⟩
theorem Kv_b {g sb : Nat} {w : World} (hg : g < w.heap.size) (hsb : sb < w.heap.size) (W : World) (l : Nat) (o o' : Obj) (hl : w.heap.size ≤ l) (_ : W.heap[l]? = some o) (_ : o.isCells = false) (_ : o.isWalk = false) : Kv g sb W (W.putObj l o') :=
  ⟨World.putObj_heap_other (by omega), World.putObj_heap_other (by omega)⟩
/-- block g holds the charts ls -/
def Chs (W : World) (g m : Nat) (ls : List (List Int)) : Prop := ∀ t L, ls[t]? = some L → ∀ j u, (c7 m (ofL L))[j]? = some u → W.cell? ⟨g, t * 7 + j, none⟩ = some u
theorem Chs.of_own {W : World} {g m n cp lo : Nat} {ls : List (List Int)} (h : W.ownsRow lo 58 7 (.slice (some ⟨g, 0, none⟩) n cp) ls.length (cwc m ls)) : Chs W g m ls := fun t L hL j u hu => by
  have ea : ∀ j, (⟨g, 0, none⟩ : Addr).add j = ⟨g, j, none⟩ := fun j => by unfold Addr.add; split <;> simp_all
  have hj : j < 7 := by
    rcases Nat.lt_or_ge j 7 with h | h
    · exact h
    · rw [List.getElem?_eq_none (by simp [c7]; omega)] at hu; cases hu
  rw [← ea]
  exact h.cells rfl _ _ ((cwc_get m ls t L hL j hj).trans hu)
theorem Chs.same {W W' : World} {g m : Nat} {ls : List (List Int)} (h : Chs W g m ls) (hs : W'.heap[g]? = W.heap[g]?) : Chs W' g m ls := fun t L hL j u hu => (World.cell?_of_block hs).trans (h t L hL j u hu)
theorem Chs.all {W : World} {g m t : Nat} {ls : List (List Int)} {L : List Int} (h : Chs W g m ls) (hL : ls[t]? = some L) :
    W.cell? ⟨g, t * 7, none⟩ = some (.int .i64 (m : Int)) ∧ W.cell? ⟨g, t * 7 + 1, none⟩ = some (.int .i64 (ofL L 0)) ∧ W.cell? ⟨g, t * 7 + 2, none⟩ = some (.int .i64 (ofL L 1)) ∧ W.cell? ⟨g, t * 7 + 3, none⟩ = some (.int .i64 (ofL L 2)) ∧
    W.cell? ⟨g, t * 7 + 4, none⟩ = some (.int .i64 (ofL L 3)) ∧ W.cell? ⟨g, t * 7 + 5, none⟩ = some (.int .i64 (ofL L 4)) ∧ W.cell? ⟨g, t * 7 + 6, none⟩ = some (.int .i64 (ofL L 5)) :=
  ⟨h t L hL 0 _ rfl, h t L hL 1 _ rfl, h t L hL 2 _ rfl, h t L hL 3 _ rfl, h t L hL 4 _ rfl, h t L hL 5 _ rfl, h t L hL 6 _ rfl⟩

set_option maxRecDepth 100000 in
set_option maxHeartbeats 2000000 in
theorem values1_in (F : Fence) (q : Nat) (hf : F.fn 148) (hro : F.round = none) (hq : 1 ≤ q) (l g sb cp m n : Nat) (ls : List (List Int)) (hn : ls.length = n) (hn6 : n ≤ 1048576) (J Jx : List (List Int) → World → Prop)
    (hY : ∀ pre x W, J pre W → pre.length < n → YieldAt F (q - 1) Tryz.prog l (encC m x) W fun e W' =>
      (e = .returned (.bool true) ∧ J (pre ++ [x]) W' ∧ Kv g sb W W') ∨ (e = .returned (.bool false) ∧ Jx (pre ++ [x]) W'))
    (hA : ∀ pre W o, J pre W → J pre (W.alloc o)) (W : World) (hg : g < W.heap.size) (hR : Chs W g m ls) (hS : Boxed W sb 65 (.slice (some ⟨g, 0, none⟩) n cp)) (h0 : J [] W) :
    CallsIn F q Tryz.prog 148 #[.func (.yield l) #[] #[], .pointer (some ⟨sb, 0, none⟩)] W fun e W' => (∃ v, e = .returned v) ∧
      ((∃ ys, ys = ls ∧ J ys W') ∨ (∃ pre : List (List Int), True ∧ Jx pre W')) := by
  have hc := hS.cell
  have HN := Lib.hid hn
  clear hn
  refine callsIn_of_wp Tryz.func148 rfl hf ?_ hro
  simp only [Tryz.ntmps148, List.size_toArray, List.length_cons, List.length_nil, Nat.reduceAdd, Nat.reduceSub, Array.replicate_succ, Array.replicate_zero, List.push_toArray, List.append_toArray, List.nil_append, List.cons_append]
  gi_wp2
  gi_loopw [4, 7] (fun _ i wr => ∃ k : Nat, k ≤ n ∧ i = .int .i64 (k : Int) ∧ J (ls.take k) wr ∧ g < wr.heap.size ∧ sb < wr.heap.size ∧ Chs wr g m ls) (fun _ i _ => n - (intOf i).toNat)
  case atStart => exact ⟨0, Nat.zero_le _, rfl, h0, hg, hS.lt, hR⟩
  case round =>
    clear hg hR hS h0 hc
    obtain ⟨k, hk, rfl, hJ, hg, hsb, hR⟩ := hrel
    by_cases hlt : k < n
    · have hkl : k < ls.length := by have := HN.out; omega
      obtain ⟨L, hL⟩ : ∃ L, ls[k]? = some L := ⟨_, List.getElem?_eq_getElem hkl⟩
      obtain ⟨c0, c1, c2, c3, c4, c5, c6⟩ := hR.all hL
      have HT : Hid (ls.take (k + 1) = ls.take k ++ [L]) := by show _ = _; rw [List.take_add_one, hL]; rfl
      obtain ⟨fn, tmps, assign, body, hy, hRd⟩ := hY (ls.take k) L (wr.alloc (.cells #[.int .i64 ((m : Int)), .int .i64 (ofL L 0), .int .i64 (ofL L 1), .int .i64 (ofL L 2), .int .i64 (ofL L 3), .int .i64 (ofL L 4), .int .i64 (ofL L 5)] 58)) (hA _ _ _ hJ) (by rw [List.length_take]; omega)
      dsimp only [encC] at hy
      clear hL hkl
      gi_wp2
      refine hRd.mono ?_
      rintro e W3 (⟨rfl, hJ3, hk3⟩ | ⟨rfl, hJx3⟩)
      · have hbg := hk3.1.trans (Below.heap_alloc wr (.cells #[.int .i64 ((m : Int)), .int .i64 (ofL L 0), .int .i64 (ofL L 1), .int .i64 (ofL L 2), .int .i64 (ofL L 3), .int .i64 (ofL L 4), .int .i64 (ofL L 5)] 58) g hg)
        have hbs := hk3.2.trans (Below.heap_alloc wr (.cells #[.int .i64 ((m : Int)), .int .i64 (ofL L 0), .int .i64 (ofL L 1), .int .i64 (ofL L 2), .int .i64 (ofL L 3), .int .i64 (ofL L 4), .int .i64 (ofL L 5)] 58) sb hsb)
        have hR3 := hR.same hbg
        have hg3 : g < W3.heap.size := by
          rcases Nat.lt_or_ge g W3.heap.size with h | h
          · exact h
          · rw [Array.getElem?_eq_none h, Array.getElem?_eq_getElem hg] at hbg; cases hbg
        have hs3 : sb < W3.heap.size := by
          rcases Nat.lt_or_ge sb W3.heap.size with h | h
          · exact h
          · rw [Array.getElem?_eq_none h, Array.getElem?_eq_getElem hsb] at hbs; cases hbs
        clear c0 c1 c2 c3 c4 c5 c6 hR hJ hbg hbs hk3
        gi_wp2
        go_roundw
        case rel => exact ⟨k + 1, by omega, by go_num, by rw [HT.out]; exact hJ3, hg3, hs3, hR3⟩
        case measure => simp [intOf]; omega
      · gi_wp2
        refine bodyPost_ret (results_none rfl _ _ _) rfl ?_
        exact ⟨⟨_, rfl⟩, .inr ⟨_, trivial, hJx3⟩⟩
    · obtain rfl : k = n := by omega
      have HT : Hid (ls.take k = ls) := List.take_of_length_le (by rw [HN.out]; exact Nat.le_refl _)
      gi_wp2
      go_end0
      exact ⟨⟨_, rfl⟩, .inl ⟨_, rfl, by rw [← HT.out]; exact hJ⟩⟩

set_option maxHeartbeats 1000000 in
theorem values_in (F : Fence) (q : Nat) (hf : F.fn 139) (hro : F.round = none) (v : Value) (hv : v.oneCell' = true) (w : World) :
    CallsIn F q Tryz.prog 139 #[v] w fun e w' => e = .returned (.func (.func 148) #[] #[.pointer (some ⟨w.heap.size, 0, none⟩)]) ∧ w' = w.alloc (.cells #[v] 65) := by
  refine callsIn_of_wp Tryz.func139 rfl hf ?_ hro
  simp only [Tryz.ntmps139, List.size_toArray, List.length_cons, List.length_nil, Nat.reduceAdd, Nat.reduceSub, Array.replicate_succ, Array.replicate_zero, List.push_toArray, List.append_toArray, List.nil_append, List.cons_append]
  cases v <;> first | (exfalso; simp [Value.oneCell'] at hv; done) | skip
  all_goals gi_wp2
  all_goals go_ret
  all_goals exact ⟨rfl, rfl⟩

theorem values_stops (F : Fence) (q : Nat) (hf : F.fn 148) (hro : F.round = none) (hq : 1 ≤ q) (g sb cp m n : Nat) (ls : List (List Int)) (hn : ls.length = n) (hn6 : n ≤ 1048576) (w : World) (hg : g < w.heap.size) (hR : Chs w g m ls) (hS : Boxed w sb 65 (.slice (some ⟨g, 0, none⟩) n cp)) :
    SeqStopsK F q Tryz.prog 148 #[.pointer (some ⟨sb, 0, none⟩)] (encC m) (Kv g sb) (fun ys => ys = ls) (fun _ => True) n w := fun l J Jx W hB hA _ hY h0 =>
  values1_in F q hf hro hq l g sb cp m n ls hn hn6 J Jx hY (fun pre V o hJ => hA pre V (V.alloc o) none hJ (World.grownBy_alloc V o none) (fun _ e => by cases e)) W (by have := hB.size; omega) (hR.same (hB.block g hg)) ((hB.block sb hS.lt).trans hS) h0
end

end Go.Proofs.YtkfiehndlgplgaaGreatDoor
