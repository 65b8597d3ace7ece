/-
  Kn.
-/
import Derived.Test.YtmknjifmmmnjjaaDoorKF
import Derived.Test.YtmknjifmmmnjjaaDoorKM
namespace Go.Proofs.YtmknjifmmmnjjaaDoor
set_option maxRecDepth 100000
set_option linter.unusedVariables false
set_option linter.unusedSimpArgs false
set_option linter.unusedSectionVars false

/-! impl.CongruenceIn, CongruenceFiner. -/
section
open Go.RowKit Go.Maps

set_option maxHeartbeats 1000000 in
theorem implCgIn_any (A C : Option Addr) (n c m d : Nat) (zs : List (List Int)) (cs : List Int) (w : World) (h : RSS w A n zs) (h' : RI w C m cs) (hw : ∀ x ∈ cs, wfI x) (hg : EtAt w) :
    Calls Tryd.prog 8 #[.slice A n c, .slice C m d] w fun e w' => e = .returned (.bool (cgB zs cs)) ∧ Below w.heap.size w w' := by
  have hcf := cgFrom_any A C n c m d zs cs w h h' hw hg
  clear h h' hw hg
  go_enter Tryd.func8, Tryd.ntmps8
  go_wp2_with fail
  refine hcf.mono ?_
  rintro e w1 ⟨kv, rfl, hkv, hb⟩
  clear hcf
  cases hr : cgB zs cs
  · obtain rfl := hkv.1 hr
    clear hkv
    have hsz := hb.size
    go_wp2
    go_ret
    exact ⟨by rw [hr]; try rfl, by first | exact hb | exact hb.alloc hsz _⟩
  · obtain ⟨b, q, C2, c2, rfl, _⟩ := hkv.2 hr
    clear hkv
    have hsz := hb.size
    go_wp2
    go_ret
    exact ⟨by rw [hr]; try rfl, by first | exact hb | exact hb.alloc hsz _⟩
end

end Go.Proofs.YtmknjifmmmnjjaaDoor
