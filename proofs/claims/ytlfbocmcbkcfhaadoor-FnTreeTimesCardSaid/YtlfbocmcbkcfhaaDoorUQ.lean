/-
  Dq.
-/
import Derived.Test.YtlfbocmcbkcfhaaDoorTS
import Derived.Test.YtlfbocmcbkcfhaaDoorUP
namespace Go.Proofs.YtlfbocmcbkcfhaaDoor
set_option maxRecDepth 100000
set_option linter.unusedVariables false
set_option linter.unusedSimpArgs false
set_option linter.unusedSectionVars false

/-! The draws of the laws on words, and what a reduced word's length is. -/
section
open Go.RowKit

theorem stp_par (u : List (Fin 4)) (c : Fin 4) : (stp u c).length % 2 = (u.length + 1) % 2 := by
  cases u with
  | nil => rfl
  | cons d u =>
    rw [stp_cons]
    split
    · simp only [List.length_cons]; omega
    · simp only [List.length_cons]
theorem goW_par : ∀ (ws u : List (Fin 4)), (goW u ws).length % 2 = (u.length + ws.length) % 2
  | [], u => by simp [goW]
  | c :: ws, u => by
    have h1 := goW_par ws (stp u c)
    have h2 := stp_par u c
    show (goW (stp u c) ws).length % 2 = _
    rw [h1, List.length_cons]; omega
/-- a drawn word -/
def WordL (w : World) (e : Ending) (w' : World) : Prop := ∃ s : ByteArray, e = .returned (.string s) ∧ s.size ≤ 10000 ∧ Below w.heap.size w w'
/-- what grows from the reader's block on lies behind -/
theorem gb_bel {w w1 w2 : World} {R : Nat} (hb : Below w.heap.size w w1) (hg : w1.grownBy w2 (some R)) (hR : w.heap.size ≤ R) : Below w.heap.size w w2 :=
  hb.grown hg hb.size (fun k e => by cases e; exact hR)
theorem drawOf_any (A : Option Addr) (n c : Nat) (bs : Nat → Nat) (w : World) (h : Src w w.heap.size A n bs) (hnc : n ≤ c) (hn : n ≤ 1048576) :
    Calls Tryd.prog 19 #[.slice A n c] w (WordL w) := by
  go_enter Tryd.func19, Tryd.ntmps19
  go_wp2_with fail
  refine (open_any _ _ _ _ _ h hnc hn).mono ?_
  rintro e w1 ⟨R, rfl, hR, hRl, hRd, hb⟩
  go_wp2_with fail
  refine (l91Word_any R 0 12 w1 hRd (by omega) (by omega)).mono ?_
  rintro e w2 ⟨s, q, rfl, hs, hq, hRd2, hg⟩
  go_wp2
  go_ret
  exact ⟨_, rfl, hs, gb_bel hb hg hR⟩
end

end Go.Proofs.YtlfbocmcbkcfhaaDoor
