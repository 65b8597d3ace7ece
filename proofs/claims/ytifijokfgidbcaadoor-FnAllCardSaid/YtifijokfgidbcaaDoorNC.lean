/-
  S3B.
-/
import Derived.Test.YtifijokfgidbcaaDoorNB
namespace Go.Proofs.YtifijokfgidbcaaDoor
set_option maxRecDepth 100000
set_option linter.unusedVariables false
set_option linter.unusedSimpArgs false
set_option linter.unusedSectionVars false

/-! spec: lists of charts of as many points; semigroups. -/
section
open Go.RowKit

theorem add_zero_ {ad : Addr} : ad.add 0 = ad := by unfold Addr.add; split <;> simp_all
theorem chB_step {zs : List (List Int)} {k : Nat} (hk : k < zs.length) (P : List Int → Bool) (h : (zs.take k).all P = true) (hp : P (ent zs k) = true) : (zs.take (k + 1)).all P = true := by
  rw [List.take_succ_eq_append_getElem hk, List.all_append, h]
  unfold ent at hp
  rw [List.getElem?_eq_getElem hk] at hp
  simp only [Option.getD_some] at hp
  simp [hp]
theorem chB_no {zs : List (List Int)} {k : Nat} (hk : k < zs.length) (h : (isC (ent zs k) && decide ((ent zs k).length = (ent zs 0).length)) = false) : chB zs = false := by
  cases hc : chB zs
  · rfl
  · have := (chB_iff.1 hc).2 _ (ent_mem hk)
    rw [this.1, decide_eq_true this.2] at h; cases h

end

end Go.Proofs.YtifijokfgidbcaaDoor
