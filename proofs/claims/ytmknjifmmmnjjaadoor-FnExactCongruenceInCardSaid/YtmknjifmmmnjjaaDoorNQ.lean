/-
  Keep.
-/
import Derived.Test.YtmknjifmmmnjjaaDoorMC
import Derived.Test.YtmknjifmmmnjjaaDoorME
import Derived.Test.YtmknjifmmmnjjaaDoorND
namespace Go.Proofs.YtmknjifmmmnjjaaDoor
set_option maxRecDepth 100000
set_option linter.unusedVariables false
set_option linter.unusedSimpArgs false
set_option linter.unusedSectionVars false

/-! spec: marked charts of a list (l3Idems, l3Keep), SemigroupIdems, SemigroupGroup. -/
section
open Go.RowKit

theorem isRI_some {w : World} {A : Option Addr} {n : Nat} {zs : List Int} (h : RI w A n zs) (hn : 0 < n) : ∃ ad, A = some ad ∧ ad.block < w.heap.size ∧ ∀ j u, (ivs zs)[j]? = some u → w.cell? (ad.add j) = some u := h.2.2 hn
theorem idB_of {L : List Int} (h : isC L = true) : idemL (mv (ofL L) L.length) = idB L := by unfold idB; rw [h, fk_yes h, fT_ofL h, Bool.true_and]
theorem info_bool : (Tryd.prog.info? 4).map (fun i => (i.zero, i.size, i.bytes)) = some (some (.bool false), 1, 1) := by kernel_rfl
def bvs (bs : List Bool) : List Value := bs.map Value.bool
theorem fillB (bs : List Bool) {k : Nat} {b : Bool} {n : Nat} (hk : k < n) (hl : bs.length = k) : (bvs (bs ++ List.replicate (n - k) false)).set k (.bool b) = bvs (bs ++ [b] ++ List.replicate (n - (k + 1)) false) := by
  obtain ⟨d, hd⟩ : ∃ d, n - k = d + 1 := ⟨n - k - 1, by omega⟩
  rw [hd, show n - (k + 1) = d by omega]
  unfold bvs
  rw [← hl, List.replicate_succ, List.map_append, List.set_append_right _ _ (by simp)]
  simp


theorem filt_no {zs : List (List Int)} {k : Nat} {p : List Int → Bool} (hk : k < zs.length) (h : p (ent zs k) = false) : (zs.take (k + 1)).filter p = (zs.take k).filter p := by
  have e : ent zs k = zs[k] := by unfold ent; rw [List.getElem?_eq_getElem hk]; rfl
  rw [List.take_succ_eq_append_getElem hk, List.filter_append]
  simp [← e, h]
theorem filt_yes {zs : List (List Int)} {k : Nat} {p : List Int → Bool} (hk : k < zs.length) (h : p (ent zs k) = true) : (zs.take (k + 1)).filter p = (zs.take k).filter p ++ [ent zs k] := by
  have e : ent zs k = zs[k] := by unfold ent; rw [List.getElem?_eq_getElem hk]; rfl
  rw [List.take_succ_eq_append_getElem hk, List.filter_append]
  simp [← e, h]
end

end Go.Proofs.YtmknjifmmmnjjaaDoor
