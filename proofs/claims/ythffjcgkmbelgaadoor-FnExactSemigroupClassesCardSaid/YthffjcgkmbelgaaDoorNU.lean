/-
  UnI.
-/
import Derived.Test.YthffjcgkmbelgaaDoorNT
namespace Go.Proofs.YthffjcgkmbelgaaDoor
set_option maxRecDepth 100000
set_option linter.unusedVariables false
set_option linter.unusedSimpArgs false
set_option linter.unusedSectionVars false

/-! (impl.chart).below as the maps know it, (impl.semigroup).above, unitary, impl.SemigroupUnitary. -/
section
open Go.RowKit Go.Maps

theorem all_no {L : List (List Int)} {P : List Int → Bool} {x : List Int} (hx : x ∈ L) (h : P x = false) : L.all P = false := by
  cases hc : L.all P
  · rfl
  · have := List.all_eq_true.1 hc x hx; rw [h] at this; cases this

theorem isC_En {L : List Int} (h : isC L = true) : En L.length (ofL L) := en_ofL h
theorem below_c (m : Nat) (L M : List Int) (hL : isC L = true) (hM : isC M = true) (hm : L.length = m) (hm' : M.length = m) (w : World) :
    Calls Tryd.prog 71 #[.agg #[.int .i64 ((m : Int)), .int .i64 (ofL L 0), .int .i64 (ofL L 1), .int .i64 (ofL L 2), .int .i64 (ofL L 3), .int .i64 (ofL L 4), .int .i64 (ofL L 5)], .agg #[.int .i64 ((m : Int)), .int .i64 (ofL M 0), .int .i64 (ofL M 1), .int .i64 (ofL M 2), .int .i64 (ofL M 3), .int .i64 (ofL M 4), .int .i64 (ofL M 5)]] w fun e w' => e = .returned (.bool (beB L M)) ∧ Below w.heap.size w w' := by
  subst hm
  have hb := below_any L.length (isC_len hL).2 (ofL L) (ofL M) (isC_En hL) w
  have hP := isP_of hL hM hm'.symm
  rw [eq6_is (isC_len hL).2 (isC_En hL) (fun j h1 h2 => by unfold ofL; rw [List.getElem?_eq_none (by omega)]; rfl)] at hb
  have e : beB L M = blK (ofL L) (ofL M) L.length := by unfold beB; rw [hP, Bool.true_and]
  rw [e]; exact hb
theorem idem_c (m : Nat) (L : List Int) (hL : isC L = true) (hm : L.length = m) (w : World) :
    Calls Tryd.prog 70 #[.agg #[.int .i64 ((m : Int)), .int .i64 (ofL L 0), .int .i64 (ofL L 1), .int .i64 (ofL L 2), .int .i64 (ofL L 3), .int .i64 (ofL L 4), .int .i64 (ofL L 5)]] w fun e w' => e = .returned (.bool (idB L)) ∧ Below w.heap.size w w' := by
  subst hm
  have := idem_any L.length (isC_len hL).2 (ofL L) (isC_Ok hL) w
  rw [idB_of hL] at this
  exact this
set_option maxHeartbeats 1000000 in
theorem above_any {H : Type} (b m n : Nat) (zs : List (List Int)) (hn : zs.length = n) (hn6 : n ≤ 1048576) (hz : ∀ L ∈ zs, isC L = true ∧ L.length = m) (hs : Srt zs) (L : List Int) (hL : isC L = true) (hm : L.length = m) (w : World)
    (hown : w.ownsMap Tryd.prog 49 (plainElem (H := H) Tryd.prog 3) b n (mapP klL zs n)) :
    Calls Tryd.prog 44 #[.map (some b), .agg #[.int .i64 ((m : Int)), .int .i64 (ofL L 0), .int .i64 (ofL L 1), .int .i64 (ofL L 2), .int .i64 (ofL L 3), .int .i64 (ofL L 4), .int .i64 (ofL L 5)]] w fun e w' => ∃ v, e = .returned v ∧ w'.ownsRow w.heap.size 49 7 v (zs.filter (beB L)).length (cwc m (zs.filter (beB L))) ∧ Below w.heap.size w w' := by
  have hB0 : Below w.heap.size w (w.alloc (.cells #[.int .i64 ((m : Int)), .int .i64 (ofL L 0), .int .i64 (ofL L 1), .int .i64 (ofL L 2), .int .i64 (ofL L 3), .int .i64 (ofL L 4), .int .i64 (ofL L 5)] 49)) := (Below.refl _ w).alloc (Nat.le_refl _) _
  have hpt := part_any b m n 71 #[.agg #[.int .i64 ((m : Int)), .int .i64 (ofL L 0), .int .i64 (ofL L 1), .int .i64 (ofL L 2), .int .i64 (ofL L 3), .int .i64 (ofL L 4), .int .i64 (ofL L 5)]] #[] zs hn hn6 hz hs (beB L) (w.alloc (.cells #[.int .i64 ((m : Int)), .int .i64 (ofL L 0), .int .i64 (ofL L 1), .int .i64 (ofL L 2), .int .i64 (ofL L 3), .int .i64 (ofL L 4), .int .i64 (ofL L 5)] 49)) (enters_of Tryd.func71 (by kernel_rfl) rfl) (fun M hM W _ => below_c m L M hL (hz M hM).1 hm (hz M hM).2 W) (hown.alloc _)
  obtain ⟨a0, a1, a2, a3, a4, a5, a6⟩ := (Cb.new w (m : Int) (ofL L)).all
  clear hown hz hs hL hm
  go_enter Tryd.func44, Tryd.ntmps44
  go_wp2_with fail
  refine hpt.mono ?_
  rintro e w1 ⟨v, rfl, ho, hb⟩
  have hs := hb.size
  go_wp2
  go_ret
  exact ⟨_, rfl, own_base ho (by simp), hB0.trans (hb.mono (by simp))⟩
end

end Go.Proofs.YthffjcgkmbelgaaDoor
