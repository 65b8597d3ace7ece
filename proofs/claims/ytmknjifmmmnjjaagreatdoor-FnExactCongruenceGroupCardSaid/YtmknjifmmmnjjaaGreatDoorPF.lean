/-
  Af.
-/
import Derived.Test.YtmknjifmmmnjjaaGreatDoorPE
namespace Go.Proofs.YtmknjifmmmnjjaaGreatDoor
set_option maxRecDepth 100000
set_option linter.unusedVariables false
set_option linter.unusedSimpArgs false
set_option linter.unusedSectionVars false

/-! (impl.arrows).lists, objects, isObject, between; impl.arrowsFrom, ArrowObjects, ArrowLocal, ArrowFrom. -/
section
open Go.RowKit Go.Maps

/-- the charts of a list that is a semigroup, none of others -/
def sgl (zs : List (List Int)) : List (List Int) := if sgS zs = true then zs else []
def m0 (zs : List (List Int)) : Nat := (ent zs 0).length
theorem sgl_ch {zs : List (List Int)} : ∀ L ∈ sgl zs, isC L = true ∧ L.length = m0 zs := fun L hL => by
  unfold sgl at hL
  split at hL
  · rename_i h; exact (sgS_iff.1 h).ch L hL
  · cases hL
theorem sgl_len (zs : List (List Int)) : (sgl zs).length ≤ 400 := by
  unfold sgl
  split
  · rename_i h; exact (sgS_iff.1 h).most
  · simp
set_option maxHeartbeats 1000000 in
theorem arrowsFrom_any (A : Option Addr) (n c : Nat) (zs : List (List Int)) (w : World) (h : RSS w A n zs) (hg : EtAt w) :
    Calls Tryz.prog 87 #[.slice A n c] w fun e w' => ∃ v, e = .returned (.tuple #[v, .bool (sgS zs)]) ∧ w'.ownsRow w.heap.size 65 9 v (sgl zs).length (awc (m0 zs) (sgl zs)) ∧ Below w.heap.size w w' := by
  have hsg := told_any A n c zs w h hg
  clear h hg
  cases hS : sgS zs
  · have HS := Lib.hid hS
    have HL : Hid (sgl zs = []) := by show _ = _; unfold sgl; rw [hS]; rfl
    rw [hS] at hsg
    clear hS
    go_enter Tryz.func87, Tryz.ntmps87
    go_wp2_with fail
    refine hsg.mono ?_
    rintro e w1 ⟨v, rfl, hy, hno, hb⟩
    obtain rfl := hno HS.out
    clear hy hno hsg
    go_wp2_with fail
    refine (arrowsOf_none w1).mono ?_
    rintro e w2 ⟨rfl, hb2⟩
    have hB := hb.trans (hb2.mono hb.size)
    clear hb hb2
    go_wp2
    go_ret2
    exact ⟨_, rfl, by rw [HL.out]; exact World.ownsRow_nil _ _ _ _, hB⟩
  · have HS := Lib.hid hS
    have HL : Hid (sgl zs = zs) := by show _ = _; unfold sgl; rw [hS]; rfl
    have HX := Lib.hid (sgS_iff.1 hS)
    rw [hS] at hsg
    clear hS
    go_enter Tryz.func87, Tryz.ntmps87
    go_wp2_with fail
    refine hsg.mono ?_
    rintro e w1 ⟨v, rfl, hy, hno, hb⟩
    obtain ⟨b, rfl, hbl, hown⟩ := hy HS.out
    have hao := arrowsOf_any b (m0 zs) zs.length zs rfl (by have := HX.out.most; omega) HX.out.ch HX.out.srt w1 hown
    clear hy hno hsg hown
    go_wp2_with fail
    refine hao.mono ?_
    rintro e w2 ⟨v, rfl, hown, hb2⟩
    have hB := hb.trans (hb2.mono hb.size)
    have hs := hb.size
    clear hb hb2 hao
    go_wp2
    go_ret2
    exact ⟨_, rfl, by rw [HL.out]; exact own_base hown hs, hB⟩
def doI (L : List Int) : Int := (doN L : Nat)
def raI (L : List Int) : Int := (raN L : Nat)
def btB (a b : Int) (L : List Int) : Bool := decide (doI L = a) && decide (raI L = b)
end

end Go.Proofs.YtmknjifmmmnjjaaGreatDoor
