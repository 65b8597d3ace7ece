/-
  Grp.
-/
import Derived.Test.YtdipcjnnknggnaaGreatDoorNQ
import Derived.Test.YtdipcjnnknggnaaGreatDoorNR
namespace Go.Proofs.YtdipcjnnknggnaaGreatDoor
set_option maxRecDepth 100000
set_option linter.unusedVariables false
set_option linter.unusedSimpArgs false
set_option linter.unusedSectionVars false

/-! SemigroupIdems (spec), SemigroupGroup (both sides). -/
section
open Go.RowKit Go.Maps

theorem sg_isC {zs : List (List Int)} (h : sgS zs = true) : ∀ L ∈ zs, isC L = true := fun L hL => ((sgS_iff.1 h).ch L hL).1
def idL (zs : List (List Int)) : List (List Int) := if sgS zs = true then zs.filter idB else []
def sgrB (zs : List (List Int)) : Bool := sgS zs && decide ((zs.filter idB).length = 1)

theorem own_shape {w : World} {base size n : Nat} {e : TypeId} {v : Value} {xs : List Value} (h : w.ownsRow base e size v n xs) : ∃ A c, v = .slice A n c := by
  rcases h.2 with ⟨rfl, rfl⟩ | ⟨g, cap, _, rfl, _⟩
  · exact ⟨none, 0, rfl⟩
  · exact ⟨_, _, rfl⟩

theorem idems_any {H : Type} (b m n : Nat) (zs : List (List Int)) (hn : zs.length = n) (hn6 : n ≤ 1048576) (hz : ∀ L ∈ zs, isC L = true ∧ L.length = m) (hs : Srt zs) (w : World)
    (hown : w.ownsMap Tryz.prog 74 (plainElem (H := H) Tryz.prog 3) b n (mapP klL zs n)) :
    Calls Tryz.prog 45 #[.map (some b)] w fun e w' => ∃ v, e = .returned v ∧ w'.ownsRow w.heap.size 74 7 v (zs.filter idB).length (cwc m (zs.filter idB)) ∧ Below w.heap.size w w' := by
  have hpt := part_any b m n 82 #[] #[] zs hn hn6 hz hs idB w (enters_of Tryz.func82 (by kernel_rfl) rfl) (fun L hL W _ => by
    have hL' := hz L hL
    have := idem_any L.length (isC_len hL'.1).2 (ofL L) (isC_Ok hL'.1) W
    rw [hL'.2] at this
    have e : idemL (mv (ofL L) m) = idB L := by rw [← hL'.2]; exact idB_of hL'.1
    rw [e] at this
    exact this) hown
  clear hown hz hs
  go_enter Tryz.func45, Tryz.ntmps45
  go_wp2_with fail
  refine hpt.mono ?_
  rintro e w1 ⟨v, rfl, ho, hb⟩
  go_wp2
  go_ret
  exact ⟨_, rfl, ho, hb⟩
set_option maxHeartbeats 1000000 in
theorem implGroup_any (A : Option Addr) (n c : Nat) (zs : List (List Int)) (w : World) (h : RSS w A n zs) (hg : EtAt w) :
    Calls Tryz.prog 18 #[.slice A n c] w fun e w' => e = .returned (.bool (sgrB zs)) ∧ Below w.heap.size w w' := by
  have hsg := told_any A n c zs w h hg
  clear h hg
  go_enter Tryz.func18, Tryz.ntmps18
  go_wp2_with fail
  refine hsg.mono ?_
  rintro e w1 ⟨v, rfl, hy, hno, hb⟩
  cases hS : sgS zs
  · obtain rfl := hno hS
    clear hy hno hsg
    go_wp2
    go_ret
    exact ⟨by unfold sgrB; rw [hS]; rfl, hb⟩
  · obtain ⟨b, rfl, hbl, hown⟩ := hy hS
    have S := sgS_iff.1 hS
    have hid := idems_any b (ent zs 0).length zs.length zs rfl (by have := S.most; omega) S.ch S.srt w1 hown
    have HS := Lib.hid hS
    clear hy hno hsg S hS
    go_wp2_with fail
    refine hid.mono ?_
    rintro e w2 ⟨v, rfl, ho, hb2⟩
    obtain ⟨A', c', rfl⟩ := own_shape ho
    have HG : Hid (sgrB zs = decide ((zs.filter idB).length = 1)) := by show _ = _; unfold sgrB; rw [HS.out, Bool.true_and]
    have hB2 := hb.trans (hb2.mono hb.size)
    clear hid ho hown
    by_cases hq : (zs.filter idB).length = 1
    · have hbe : (((zs.filter idB).length : Int) == 1) = true := by rw [hq]; rfl
      have HQ := Lib.hid hq
      clear hq
      generalize (zs.filter idB).length = q at *
      go_wp2
      go_ret
      exact ⟨by rw [HG.out, decide_eq_true HQ.out]; rfl, hB2⟩
    · have hbe : (((zs.filter idB).length : Int) == 1) = false := by rw [beq_eq_false_iff_ne]; intro e; exact hq (by omega)
      have HQ := Lib.hid hq
      clear hq
      generalize (zs.filter idB).length = q at *
      go_wp2
      go_ret
      exact ⟨by rw [HG.out, decide_eq_false HQ.out]; rfl, hB2⟩
end

end Go.Proofs.YtdipcjnnknggnaaGreatDoor
