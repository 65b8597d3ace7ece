/-
  Tg.
-/
import Derived.Test.YtlcjgppclclkoaaDoorTY
import Derived.Test.YtlcjgppclclkoaaDoorUA
namespace Go.Proofs.YtlcjgppclclkoaaDoor
set_option maxRecDepth 100000
set_option linter.unusedVariables false
set_option linter.unusedSimpArgs false
set_option linter.unusedSectionVars false

/-! impl.TreeIn, impl.TreeIdem, spec.TreeIdem. -/
section
open Go.RowKit Go.Lib Go.Sort

theorem beq_nil (e : ByteArray) : e.toList.isEmpty = decide (e = ⟨#[]⟩) := by
  rw [← beq_str, ByteArray.toList_eq, ByteArray.toList_eq]
  cases e.data.toList <;> rfl
theorem yes_iff {P : Prop} (h : P) : (true = true ↔ P) := ⟨fun _ => h, fun _ => rfl⟩
/-- a yes or no about a tree -/
def AskPost (P : Prop) (w : World) (e' : Ending) (w' : World) : Prop := ∃ b : Bool, e' = .returned (.bool b) ∧ (b = true ↔ P) ∧ RowKit.Below w.heap.size w w'
set_option maxHeartbeats 1000000 in
theorem implIn_any (A : Option Addr) (n c : Nat) (ss : List ByteArray) (e : ByteArray) (w : World) (h : RS w A n ss) (hn : n ≤ 1048576) (hl : ∀ s ∈ ss, s.size ≤ 1048576) (hle : e.size ≤ 1048576) :
    Calls Tryd.prog 26 #[.agg #[.slice A n c, .string e]] w (AskPost (TinQ ss e) w) := by
  have hB0 : RowKit.Below w.heap.size w (w.alloc (.cells #[.slice A n c, .string e] 29)) := (RowKit.Below.refl _ w).alloc (Nat.le_refl _) _
  have HF := Lib.hid (treeFrom_any A n c ss e _ (h.below hB0) hn hl hle)
  have HB0 := Lib.hid hB0
  have hz := hB0.size
  clear h hB0 hl
  go_enter Tryd.func26, Tryd.ntmps26
  go_wp2_with fail
  refine HF.out.mono ?_
  rintro e' w1 ⟨hb, ⟨S, u, N, m, hT, rfl, hG, hX⟩ | ⟨hno, p, q, rfl⟩⟩
  · have hB1 := HB0.out.trans (hb.mono hz)
    have HB1 : Hid (RowKit.Below w.heap.size w (w1.alloc (.cells #[.pointer (some ⟨m [], 0, none⟩), .pointer (some ⟨m u, 0, none⟩)] 54))) := hB1.alloc hB1.size _
    have HT := Lib.hid hT
    clear hb hT hG hX hB1
    go_wp2
    go_ret
    exact ⟨true, rfl, yes_iff ⟨S, u, HT.out⟩, HB1.out⟩
  · have hB1 := HB0.out.trans (hb.mono hz)
    have HB1 : Hid (RowKit.Below w.heap.size w (w1.alloc (.cells #[.pointer p, .pointer q] 54))) := hB1.alloc hB1.size _
    have HNO := Lib.hid hno
    clear hb hno hB1
    go_wp2
    go_ret
    exact ⟨false, rfl, no_iff HNO.out, HB1.out⟩
set_option maxHeartbeats 1000000 in
theorem implIdem_any (A : Option Addr) (n c : Nat) (ss : List ByteArray) (e : ByteArray) (w : World) (h : RS w A n ss) (hn : n ≤ 1048576) (hl : ∀ s ∈ ss, s.size ≤ 1048576) (hle : e.size ≤ 1048576) :
    Calls Tryd.prog 28 #[.agg #[.slice A n c, .string e]] w (AskPost (TinQ ss e ∧ e = ⟨#[]⟩) w) := by
  have hB0 : RowKit.Below w.heap.size w (w.alloc (.cells #[.slice A n c, .string e] 29)) := (RowKit.Below.refl _ w).alloc (Nat.le_refl _) _
  have hA0 : Blk (w.alloc (.cells #[.slice A n c, .string e] 29)) w.heap.size 29 #[.slice A n c, .string e] := Blk.new w _ _
  have HF := Lib.hid (implIn_any A n c ss e _ (h.below hB0) hn hl hle)
  have HB0 := Lib.hid hB0
  have HA0 := Lib.hid hA0
  have hz : w.heap.size < (w.alloc (.cells #[.slice A n c, .string e] 29)).heap.size := by simp
  have heq := beq_nil e
  clear h hB0 hl hA0
  go_enter Tryd.func28, Tryd.ntmps28
  go_wp2_with fail
  refine HF.out.mono ?_
  rintro e' w1 ⟨b, rfl, hb, hB⟩
  have hA1 := HA0.out.below hB hz
  have c1 : w1.cell? ⟨w.heap.size, 1, none⟩ = some (.string e) := hA1.cell 1
  have HB1 := Lib.hid (HB0.out.trans (hB.mono (Nat.le_of_lt hz)))
  clear hA1 hB HF
  cases b with
  | false =>
    have HNO : Hid (¬ TinQ ss e) := fun h => Bool.noConfusion (hb.2 h)
    clear hb
    go_wp2
    go_ret
    exact ⟨false, rfl, no_iff (fun h => HNO.out h.1), HB1.out⟩
  | true =>
    have HI : Hid (TinQ ss e) := hb.1 rfl
    clear hb
    by_cases he : e = ⟨#[]⟩
    · rw [decide_eq_true he] at heq
      have HE := Lib.hid he
      clear he
      go_wp2
      go_ret
      exact ⟨true, rfl, yes_iff ⟨HI.out, HE.out⟩, HB1.out⟩
    · rw [decide_eq_false he] at heq
      have HE := Lib.hid he
      clear he
      go_wp2
      go_ret
      exact ⟨false, rfl, no_iff (fun h => HE.out h.2), HB1.out⟩
set_option maxHeartbeats 1000000 in
theorem specIdem_any (A : Option Addr) (n c : Nat) (ss : List ByteArray) (e : ByteArray) (w : World) (h : RS w A n ss) (hn : n ≤ 1048576) (hl : ∀ s ∈ ss, s.size ≤ 1048576) :
    Calls Tryd.prog 27 #[.agg #[.slice A n c, .string e]] w (AskPost (TinQ ss e ∧ e = ⟨#[]⟩) w) := by
  have hB0 : RowKit.Below w.heap.size w (w.alloc (.cells #[.slice A n c, .string e] 29)) := (RowKit.Below.refl _ w).alloc (Nat.le_refl _) _
  have hA0 : Blk (w.alloc (.cells #[.slice A n c, .string e] 29)) w.heap.size 29 #[.slice A n c, .string e] := Blk.new w _ _
  have HF := Lib.hid (specIn_any A n c ss e _ (h.below hB0) hn hl)
  have HB0 := Lib.hid hB0
  have HA0 := Lib.hid hA0
  have hz : w.heap.size < (w.alloc (.cells #[.slice A n c, .string e] 29)).heap.size := by simp
  have heq := beq_nil e
  clear h hB0 hl hA0
  go_enter Tryd.func27, Tryd.ntmps27
  go_wp2_with fail
  refine HF.out.mono ?_
  rintro e' w1 ⟨b, rfl, hb, hB⟩
  have hA1 := HA0.out.below hB hz
  have c1 : w1.cell? ⟨w.heap.size, 1, none⟩ = some (.string e) := hA1.cell 1
  have HB1 := Lib.hid (HB0.out.trans (hB.mono (Nat.le_of_lt hz)))
  clear hA1 hB HF
  cases b with
  | false =>
    have HNO : Hid (¬ TinQ ss e) := fun h => Bool.noConfusion (hb.2 h)
    clear hb
    go_wp2
    go_ret
    exact ⟨false, rfl, no_iff (fun h => HNO.out h.1), HB1.out⟩
  | true =>
    have HI : Hid (TinQ ss e) := hb.1 rfl
    clear hb
    by_cases he : e = ⟨#[]⟩
    · rw [decide_eq_true he] at heq
      have HE := Lib.hid he
      clear he
      go_wp2
      go_ret
      exact ⟨true, rfl, yes_iff ⟨HI.out, HE.out⟩, HB1.out⟩
    · rw [decide_eq_false he] at heq
      have HE := Lib.hid he
      clear he
      go_wp2
      go_ret
      exact ⟨false, rfl, no_iff (fun h => HE.out h.2), HB1.out⟩
end

end Go.Proofs.YtlcjgppclclkoaaDoor
