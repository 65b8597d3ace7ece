/-
  Grp.
-/
import Derived.Test.YtkfiehndlgplgaaGreatDoorNQ
import Derived.Test.YtkfiehndlgplgaaGreatDoorNR
namespace Go.Proofs.YtkfiehndlgplgaaGreatDoor
set_option maxRecDepth 100000
set_option linter.unusedVariables false
set_option linter.unusedSimpArgs false
set_option linter.unusedSectionVars false

/-! SemigroupIdems (spec), SemigroupGroup (both sides). -/
section
open Go.RowKit Go.Maps

theorem sg_isC {zs : List (List Int)} (h : sgS zs = true) : ∀ L ∈ zs, isC L = true := fun L hL => ((sgS_iff.1 h).ch L hL).1
def idL (zs : List (List Int)) : List (List Int) := if sgS zs = true then zs.filter idB else []
def sgrB (zs : List (List Int)) : Bool := sgS zs && decide ((zs.filter idB).length = 1)

theorem own_shape {w : World} {base size n : Nat} {e : TypeId} {v : Value} {xs : List Value} (h : w.ownsRow base e size v n xs) : ∃ A c, v = .slice A n c := by
  rcases h.2 with ⟨rfl, rfl⟩ | ⟨g, cap, _, rfl, _⟩
  · exact ⟨none, 0, rfl⟩
  · exact ⟨_, _, rfl⟩

theorem idems_any {H : Type} (b m n : Nat) (zs : List (List Int)) (hn : zs.length = n) (hn6 : n ≤ 1048576) (hz : ∀ L ∈ zs, isC L = true ∧ L.length = m) (hs : Srt zs) (w : World)
    (hown : w.ownsMap Tryz.prog 58 (plainElem (H := H) Tryz.prog 3) b n (mapP klL zs n)) :
    Calls Tryz.prog 60 #[.map (some b)] w fun e w' => ∃ v, e = .returned v ∧ w'.ownsRow w.heap.size 58 7 v (zs.filter idB).length (cwc m (zs.filter idB)) ∧ Below w.heap.size w w' := by
  have hpt := part_any b m n 57 #[] #[] zs hn hn6 hz hs idB w (enters_of Tryz.func57 (by kernel_rfl) rfl) (fun L hL W _ => by
    have hL' := hz L hL
    have := idem_any L.length (isC_len hL'.1).2 (ofL L) (isC_Ok hL'.1) W
    rw [hL'.2] at this
    have e : idemL (mv (ofL L) m) = idB L := by rw [← hL'.2]; exact idB_of hL'.1
    rw [e] at this
    exact this) hown
  clear hown hz hs
  go_enter Tryz.func60, Tryz.ntmps60
  go_wp2_with fail
  refine hpt.mono ?_
  rintro e w1 ⟨v, rfl, ho, hb⟩
  go_wp2
  go_ret
  exact ⟨_, rfl, ho, hb⟩
end

end Go.Proofs.YtkfiehndlgplgaaGreatDoor
