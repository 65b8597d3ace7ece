/-
  IAll7.
-/
import Derived.Test.YtkfiehndlgplgaaGreatDoorMA
import Derived.Test.YtkfiehndlgplgaaGreatDoorME
namespace Go.Proofs.YtkfiehndlgplgaaGreatDoor
set_option maxRecDepth 100000
set_option linter.unusedVariables false
set_option linter.unusedSimpArgs false
set_option linter.unusedSectionVars false

/-! Charts of 7 cells in rows: their cells, of one and of many. -/
section
open Go.RowKit

/-- the cells of a chart, of charts -/
def c7 (n : Nat) (T : Nat → Int) : List Value := [.int .i64 (n : Int), .int .i64 (T 0), .int .i64 (T 1), .int .i64 (T 2), .int .i64 (T 3), .int .i64 (T 4), .int .i64 (T 5)]
def cwc (n : Nat) (Ls : List (List Int)) : List Value := Ls.flatMap (fun L => c7 n (ofL L))
theorem cwc_append (n : Nat) (Ls Ms : List (List Int)) : cwc n (Ls ++ Ms) = cwc n Ls ++ cwc n Ms := by unfold cwc; simp
theorem cwc_len (n : Nat) (Ls : List (List Int)) : (cwc n Ls).length = Ls.length * 7 := by
  induction Ls with
  | nil => rfl
  | cons L Ls ih => unfold cwc at ih ⊢; rw [List.flatMap_cons, List.length_append, ih, List.length_cons]; simp [c7]; omega
theorem cwc_one (n : Nat) (Ls : List (List Int)) : ∀ u ∈ cwc n Ls, u.oneCell' = true := fun u hu => by
  obtain ⟨L, _, h⟩ := List.mem_flatMap.1 hu
  simp only [c7, List.mem_cons, List.not_mem_nil, or_false] at h
  rcases h with rfl | rfl | rfl | rfl | rfl | rfl | rfl <;> rfl
theorem cwc_get (n : Nat) : ∀ (Ls : List (List Int)) (t : Nat) (L : List Int), Ls[t]? = some L → ∀ j, j < 7 → (cwc n Ls)[t * 7 + j]? = (c7 n (ofL L))[j]?
  | [], t, L, h, j, hj => by simp at h
  | M :: Ls, 0, L, h, j, hj => by
    simp at h; subst h
    unfold cwc; rw [List.flatMap_cons, List.getElem?_append_left (by simp [c7]; omega)]; simp
  | M :: Ls, t + 1, L, h, j, hj => by
    have ih := cwc_get n Ls t L (by simpa using h) j hj
    unfold cwc at ih ⊢
    rw [List.flatMap_cons, List.getElem?_append_right (by simp [c7]; omega), ← ih]
    congr 1; simp [c7]; omega

theorem info_chart7 : (Tryz.prog.info? 58).map (fun i => (i.zero, i.size, i.bytes)) = some (some (.agg #[.int .i64 ((0 : Int)), .int .i64 ((fun _ => (0 : Int)) 0), .int .i64 ((fun _ => (0 : Int)) 1), .int .i64 ((fun _ => (0 : Int)) 2), .int .i64 ((fun _ => (0 : Int)) 3), .int .i64 ((fun _ => (0 : Int)) 4), .int .i64 ((fun _ => (0 : Int)) 5)]), 7, 56) := by kernel_rfl
theorem cell_7_new (W : World) (n : Nat) (T : Nat → Int) : ∀ (j : Nat) (x : Value), (c7 n T)[j]? = some x → (W.alloc (.cells #[.int .i64 ((n : Int)), .int .i64 (T 0), .int .i64 (T 1), .int .i64 (T 2), .int .i64 (T 3), .int .i64 (T 4), .int .i64 (T 5)] 58)).cell? ((⟨W.heap.size, 0, none⟩ : Addr).add j) = some x := fun j x h => by
  obtain ⟨a0, a1, a2, a3, a4, a5, a6⟩ := (Cb.new W (n : Int) T).all
  have hadd : (⟨W.heap.size, 0, none⟩ : Addr).add j = ⟨W.heap.size, j, none⟩ := by unfold Addr.add; split <;> simp_all
  rw [hadd]
  match j, h with
  | 0, h => simp [c7] at h; subst h; exact a0
  | 1, h => simp [c7] at h; subst h; exact a1
  | 2, h => simp [c7] at h; subst h; exact a2
  | 3, h => simp [c7] at h; subst h; exact a3
  | 4, h => simp [c7] at h; subst h; exact a4
  | 5, h => simp [c7] at h; subst h; exact a5
  | 6, h => simp [c7] at h; subst h; exact a6
  | j + 7, h => simp [c7] at h
theorem c7_one (n : Nat) (T : Nat → Int) : ∀ u ∈ c7 n T, u.oneCell' = true := fun u h => by
  simp only [c7, List.mem_cons, List.not_mem_nil, or_false] at h
  rcases h with rfl | rfl | rfl | rfl | rfl | rfl | rfl <;> rfl
theorem cell_7_lit (W : World) (n : Nat) (x0 x1 x2 x3 x4 x5 : Int) : ∀ (j : Nat) (x : Value), [Value.int .i64 (n : Int), .int .i64 x0, .int .i64 x1, .int .i64 x2, .int .i64 x3, .int .i64 x4, .int .i64 x5][j]? = some x → (W.alloc (.cells #[.int .i64 (n : Int), .int .i64 x0, .int .i64 x1, .int .i64 x2, .int .i64 x3, .int .i64 x4, .int .i64 x5] 58)).cell? ((⟨W.heap.size, 0, none⟩ : Addr).add j) = some x :=
  cell_7_new W n (fun j => match j with | 0 => x0 | 1 => x1 | 2 => x2 | 3 => x3 | 4 => x4 | _ => x5)
/-- the cells of the row's chart t -/
theorem cwc_cells {W : World} {g m cp n t base : Nat} {Ls : List (List Int)} {L : List Int} (h : W.ownsRow base 58 7 (.slice (some ⟨g, 0, none⟩) m cp) Ls.length (cwc n Ls)) (hL : Ls[t]? = some L) :
    W.cell? ⟨g, t * 7, none⟩ = some (.int .i64 (n : Int)) ∧ W.cell? ⟨g, t * 7 + 1, none⟩ = some (.int .i64 (ofL L 0)) ∧ W.cell? ⟨g, t * 7 + 2, none⟩ = some (.int .i64 (ofL L 1)) ∧ W.cell? ⟨g, t * 7 + 3, none⟩ = some (.int .i64 (ofL L 2)) ∧
    W.cell? ⟨g, t * 7 + 4, none⟩ = some (.int .i64 (ofL L 3)) ∧ W.cell? ⟨g, t * 7 + 5, none⟩ = some (.int .i64 (ofL L 4)) ∧ W.cell? ⟨g, t * 7 + 6, none⟩ = some (.int .i64 (ofL L 5)) := by
  have ea : ∀ j, (⟨g, 0, none⟩ : Addr).add j = ⟨g, j, none⟩ := fun j => by unfold Addr.add; split <;> simp_all
  have key : ∀ j u, j < 7 → (c7 n (ofL L))[j]? = some u → W.cell? ⟨g, t * 7 + j, none⟩ = some u := fun j u hj hu => by
    rw [← ea]
    exact h.cells rfl _ _ ((cwc_get n Ls t L hL j hj).trans hu)
  exact ⟨key 0 _ (by omega) rfl, key 1 _ (by omega) rfl, key 2 _ (by omega) rfl, key 3 _ (by omega) rfl, key 4 _ (by omega) rfl, key 5 _ (by omega) rfl, key 6 _ (by omega) rfl⟩
end

end Go.Proofs.YtkfiehndlgplgaaGreatDoor
