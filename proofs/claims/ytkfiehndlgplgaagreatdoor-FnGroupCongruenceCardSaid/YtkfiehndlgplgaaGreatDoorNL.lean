/-
  Key.
-/
import Derived.Maps.OwnSet
import Derived.Maps.RangeWalk
import Derived.Maps.OwnOps
import Derived.DeepKeys4
import Derived.WalkArith
import Derived.Test.YtkfiehndlgplgaaGreatDoorMV
import Derived.Test.YtkfiehndlgplgaaGreatDoorVA
namespace Go.Proofs.YtkfiehndlgplgaaGreatDoor
set_option maxRecDepth 100000
set_option linter.unusedVariables false
set_option linter.unusedSimpArgs false
set_option linter.unusedSectionVars false

/-! Charts as keys of maps: what they read as. -/
section
open Go.RowKit Go.Maps

theorem ch_laidOut : laidOutB Tryz.prog = true := by kernel_rfl
theorem ch_row : (58 : TypeId) < Tryz.prog.types.size := of_decide_eq_true (by kernel_rfl)
theorem ch_wide : (match Tryz.prog.underlying 58 with | some (.array _ _) | some (.struct _) => true | _ => false) = true := by rw [Tryz.underlying58]
theorem ch_law : Go.WideMaps.KeyLaw Tryz.prog 58 := deep_law_laid ch_laidOut (m := 3) (by omega) ch_row (by kernel_rfl) ch_wide
theorem ch_keyed : Keyed Tryz.prog 58 := Keyed.of_law ch_law
theorem ch_size : Tryz.prog.types.size = 232 := by kernel_rfl
theorem ch_cells : Tryz.prog.cellsOf 58 = 7 := by kernel_rfl
theorem ch_cellsA : Tryz.prog.cellsOf 56 = 6 := by kernel_rfl
theorem ch_cellsI : Tryz.prog.cellsOf 3 = 1 := by kernel_rfl
theorem ch_keyType : Tryz.prog.keyType 58 = true := by kernel_rfl
def seven (n : Int) (T : Nat → Int) : List Lit := [.int .i64 n, .int .i64 (T 0), .int .i64 (T 1), .int .i64 (T 2), .int .i64 (T 3), .int .i64 (T 4), .int .i64 (T 5)]
/-- what a chart reads as -/
def klT (n : Int) (T : Nat → Int) : Lit := .string (keyBytes (seven n T))
def In64 (z : Int) : Prop := -9223372036854775808 ≤ z ∧ z ≤ 9223372036854775807
theorem kl_int (d : Nat) {z : Int} (h : In64 z) : Tryz.prog.keyLits (d + 1) 3 [.int .i64 z] = some [.int .i64 z] := by
  simp [Program.keyLits, Tryz.underlying3, WalkArith.wf_i64 h]
theorem kl_int_inv (d : Nat) {c : Value} {l : List Lit} (h : Tryz.prog.keyLits (d + 1) 3 [c] = some l) : ∃ z, c = .int .i64 z ∧ l = [.int .i64 z] := by
  cases c <;> simp [Program.keyLits, Tryz.underlying3] at h
  obtain ⟨⟨rfl, _⟩, rfl⟩ := h
  exact ⟨_, rfl, rfl⟩
theorem kl_arr (d : Nat) (c0 c1 c2 c3 c4 c5 : Value) : Tryz.prog.keyLits (d + 1) 56 [c0, c1, c2, c3, c4, c5] =
    ([[c0], [c1], [c2], [c3], [c4], [c5]].mapM (fun c => Tryz.prog.keyLits d 3 c)).map List.flatten := by
  simp [Program.keyLits, Tryz.underlying56, ch_cellsA, ch_cellsI, List.range, List.range.loop]
theorem kl_ch (d : Nat) (c0 c1 c2 c3 c4 c5 c6 : Value) : Tryz.prog.keyLits (d + 1) 58 [c0, c1, c2, c3, c4, c5, c6] =
    (do let a ← Tryz.prog.keyLits d 3 [c0]; let b ← Tryz.prog.keyLits d 56 [c1, c2, c3, c4, c5, c6]; pure (a ++ b)) := by
  simp [Program.keyLits, Tryz.underlying58, ch_cells, ch_cellsA, ch_cellsI]
  cases Tryz.prog.keyLits d 3 [c0] <;> simp
  cases Tryz.prog.keyLits d 56 [c1, c2, c3, c4, c5, c6] <;> simp
theorem ch_formed (c0 c1 c2 c3 c4 c5 c6 : Value) : (Value.agg #[c0, c1, c2, c3, c4, c5, c6]).formed Tryz.prog 58 = true := by simp [Value.formed, Tryz.underlying58, ch_cells]
theorem keyOf_ch (n : Int) (T : Nat → Int) (hn : In64 n) (hT : ∀ j, j < 6 → In64 (T j)) : keyOf Tryz.prog 58 (.agg #[.int .i64 (n), .int .i64 (T 0), .int .i64 (T 1), .int .i64 (T 2), .int .i64 (T 3), .int .i64 (T 4), .int .i64 (T 5)]) = some (klT n T) := by
  have h : Tryz.prog.keyLits (Tryz.prog.types.size + 1) 58 (Value.agg #[.int .i64 (n), .int .i64 (T 0), .int .i64 (T 1), .int .i64 (T 2), .int .i64 (T 3), .int .i64 (T 4), .int .i64 (T 5)]).cells.toList = some (seven n T) := by
    rw [ch_size]
    show Tryz.prog.keyLits (232 + 1) 58 [_, _, _, _, _, _, _] = _
    rw [kl_ch, kl_int _ hn, kl_arr]
    simp [List.mapM_cons, kl_int _ (hT 0 (by omega)), kl_int _ (hT 1 (by omega)), kl_int _ (hT 2 (by omega)), kl_int _ (hT 3 (by omega)), kl_int _ (hT 4 (by omega)), kl_int _ (hT 5 (by omega)), seven]
  simp only [keyOf, Tryz.underlying58, ch_keyType, ch_formed, Bool.and_self, if_true, h]
  rfl
theorem keyOf_ch_inv {key : Value} {kl : Lit} (h : keyOf Tryz.prog 58 key = some kl) : ∃ (n : Int) (T : Nat → Int), key = .agg #[.int .i64 (n), .int .i64 (T 0), .int .i64 (T 1), .int .i64 (T 2), .int .i64 (T 3), .int .i64 (T 4), .int .i64 (T 5)] ∧ kl = klT n T := by
  unfold keyOf at h
  simp only [Tryz.underlying58, ch_keyType, Bool.true_and] at h
  split at h
  · rename_i hf
    cases key with
    | agg cs =>
      have hsz : cs.size = 7 := by
        simp [Value.formed, Tryz.underlying58, ch_cells] at hf
        exact hf
      obtain ⟨l⟩ := cs
      match l, hsz with
      | [c0, c1, c2, c3, c4, c5, c6], _ =>
        have h' : (Tryz.prog.keyLits (232 + 1) 58 [c0, c1, c2, c3, c4, c5, c6]).map (fun ls => Lit.string (keyBytes ls)) = some kl := by
          rw [← ch_size]; exact h
        rw [kl_ch, kl_arr] at h'
        obtain ⟨ls, h1, h2⟩ := Option.map_eq_some_iff.1 h'
        simp only [List.mapM_cons, List.mapM_nil, Option.bind_eq_bind, Option.bind_eq_some_iff, Option.map_eq_some_iff, Option.pure_def, Option.some.injEq] at h1
        obtain ⟨l0, e0, _, ⟨_, ⟨l1, e1, _, ⟨l2, e2, _, ⟨l3, e3, _, ⟨l4, e4, _, ⟨l5, e5, _, ⟨l6, e6, _, rfl, rfl⟩, rfl⟩, rfl⟩, rfl⟩, rfl⟩, rfl⟩, rfl⟩, rfl⟩ := h1
        obtain ⟨z0, rfl, rfl⟩ := kl_int_inv _ e0
        obtain ⟨z1, rfl, rfl⟩ := kl_int_inv _ e1
        obtain ⟨z2, rfl, rfl⟩ := kl_int_inv _ e2
        obtain ⟨z3, rfl, rfl⟩ := kl_int_inv _ e3
        obtain ⟨z4, rfl, rfl⟩ := kl_int_inv _ e4
        obtain ⟨z5, rfl, rfl⟩ := kl_int_inv _ e5
        obtain ⟨z6, rfl, rfl⟩ := kl_int_inv _ e6
        exact ⟨z0, fun j => match j with | 0 => z1 | 1 => z2 | 2 => z3 | 3 => z4 | 4 => z5 | _ => z6, rfl, h2.symm⟩
    | _ => simp [Value.formed, Tryz.underlying58] at hf
  · cases h

/-- a list of charts of n points: what each reads as -/
def klL (L : List Int) : Lit := klT (L.length : Int) (ofL L)
theorem klL_key (L : List Int) : WideAt.IsKeyLit (klL L) := by unfold klL klT; trivial
theorem ch_in64 {L : List Int} (h : isC L = true) : In64 (L.length : Int) ∧ ∀ j, j < 6 → In64 (ofL L j) := by
  have h6 := (isC_len h).2
  refine ⟨⟨by omega, by omega⟩, fun j hj => ?_⟩
  by_cases hl : j < L.length
  · show In64 (L[j]?.getD 0)
    have := isC_ent h j hl
    rcases this with e | e
    · rw [e]; exact ⟨by omega, by omega⟩
    · exact ⟨by omega, by omega⟩
  · have : ofL L j = 0 := by unfold ofL; rw [List.getElem?_eq_none (by omega)]; rfl
    rw [this]; exact ⟨by omega, by omega⟩
theorem keyOf_L {L : List Int} (h : isC L = true) : keyOf Tryz.prog 58 (.agg #[.int .i64 ((L.length : Int)), .int .i64 (ofL L 0), .int .i64 (ofL L 1), .int .i64 (ofL L 2), .int .i64 (ofL L 3), .int .i64 (ofL L 4), .int .i64 (ofL L 5)]) = some (klL L) := keyOf_ch _ _ (ch_in64 h).1 (ch_in64 h).2
theorem agg_inj {n m : Int} {S T : Nat → Int} (h : Value.agg #[.int .i64 (n), .int .i64 (S 0), .int .i64 (S 1), .int .i64 (S 2), .int .i64 (S 3), .int .i64 (S 4), .int .i64 (S 5)] = Value.agg #[.int .i64 (m), .int .i64 (T 0), .int .i64 (T 1), .int .i64 (T 2), .int .i64 (T 3), .int .i64 (T 4), .int .i64 (T 5)]) : n = m ∧ ∀ j, j < 6 → S j = T j := by
  simp at h
  obtain ⟨h0, h1, h2, h3, h4, h5, h6⟩ := h
  refine ⟨h0, fun j hj => ?_⟩
  match j, hj with
  | 0, _ => exact h1
  | 1, _ => exact h2
  | 2, _ => exact h3
  | 3, _ => exact h4
  | 4, _ => exact h5
  | 5, _ => exact h6
  | j + 6, h => omega
theorem list_of_six {L M : List Int} (hl : L.length = M.length) (h6 : L.length ≤ 6) (h : ∀ j, j < 6 → ofL L j = ofL M j) : L = M := by
  apply List.ext_getElem hl
  intro i h1 h2
  have := h i (by omega)
  unfold ofL at this
  rw [List.getElem?_eq_getElem h1, List.getElem?_eq_getElem h2] at this
  exact this
theorem klL_inj (L M : List Int) (hL : isC L = true) (hM : isC M = true) (h : klL L = klL M) : L = M := by
  have h1 := keyOf_L hL
  have h2 := keyOf_L hM
  rw [← h] at h2
  have := agg_inj (ch_keyed.inj h1 h2)
  exact list_of_six (by have := this.1; omega) (isC_len hL).2 this.2
end

end Go.Proofs.YtkfiehndlgplgaaGreatDoor
