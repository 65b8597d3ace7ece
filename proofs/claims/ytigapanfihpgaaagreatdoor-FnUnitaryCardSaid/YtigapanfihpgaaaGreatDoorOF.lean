/-
  IdM.
-/
import Derived.Test.YtigapanfihpgaaaGreatDoorNW
import Derived.Test.YtigapanfihpgaaaGreatDoorNX
namespace Go.Proofs.YtigapanfihpgaaaGreatDoor
set_option maxRecDepth 100000
set_option linter.unusedVariables false
set_option linter.unusedSimpArgs false
set_option linter.unusedSectionVars false

/-! The least ideal of a semigroup with a chart; no program. -/
section
/-- what the least ideal with f holds -/
def idlP (zs : List (List Int)) (f L : List Int) : Prop := L = f ∨ (∃ x ∈ zs, L = tiL x f) ∨ (∃ x ∈ zs, L = tiL f x) ∨ ∃ x ∈ zs, ∃ y ∈ zs, L = tiL (tiL x f) y
def idlB (zs : List (List Int)) (f L : List Int) : Bool := decide (L = f) || (zs.any (fun x => decide (L = tiL x f)) || (zs.any (fun x => decide (L = tiL f x)) || zs.any (fun x => zs.any (fun y => decide (L = tiL (tiL x f) y)))))
theorem idlB_iff {zs : List (List Int)} {f L : List Int} : idlB zs f L = true ↔ idlP zs f L := by
  unfold idlB idlP
  simp only [Bool.or_eq_true, decide_eq_true_eq, List.any_eq_true]
def idlL (zs : List (List Int)) (f : List Int) : List (List Int) := if swhB zs f = true then zs.filter (idlB zs f) else []
theorem idlL_le (zs : List (List Int)) (f : List Int) : (idlL zs f).length ≤ 400 ∧ totL (idlL zs f) ≤ 2400 ∧ ∀ L ∈ idlL zs f, L.length ≤ 1048576 := by
  unfold idlL
  split
  · rename_i h; exact sub_le (swh_iff.1 h).1 (List.length_filter_le _ _) (fun L hL => (List.mem_filter.1 hL).1)
  · exact nil_le
section
variable {zs : List (List Int)} {f : List Int} (S : Sg zs) (hf : f ∈ zs)
include S
theorem sg_isP {x y : List Int} (hx : x ∈ zs) (hy : y ∈ zs) : isP x y = true := isP_of (S.ch x hx).1 (S.ch y hy).1 ((S.ch x hx).2.trans (S.ch y hy).2.symm)
theorem sg_assoc {x y z : List Int} (hx : x ∈ zs) (hy : y ∈ zs) (hz : z ∈ zs) : tiL (tiL x y) z = tiL x (tiL y z) := (tiL_assoc (sg_isP S hx hy) (sg_isP S hy hz)).2.2
include hf
theorem idl_mem {L : List Int} (h : idlP zs f L) : L ∈ zs := by
  rcases h with rfl | ⟨x, hx, rfl⟩ | ⟨x, hx, rfl⟩ | ⟨x, hx, y, hy, rfl⟩
  · exact hf
  · exact S.ti x hx f hf
  · exact S.ti f hf x hx
  · exact S.ti _ (S.ti x hx f hf) y hy
theorem idl_right {L s : List Int} (h : idlP zs f L) (hs : s ∈ zs) : idlP zs f (tiL L s) := by
  rcases h with rfl | ⟨x, hx, rfl⟩ | ⟨x, hx, rfl⟩ | ⟨x, hx, y, hy, rfl⟩
  · exact .inr (.inr (.inl ⟨s, hs, rfl⟩))
  · exact .inr (.inr (.inr ⟨x, hx, s, hs, rfl⟩))
  · exact .inr (.inr (.inl ⟨tiL x s, S.ti x hx s hs, sg_assoc S hf hx hs⟩))
  · exact .inr (.inr (.inr ⟨x, hx, tiL y s, S.ti y hy s hs, sg_assoc S (S.ti x hx f hf) hy hs⟩))
theorem idl_left {L s : List Int} (h : idlP zs f L) (hs : s ∈ zs) : idlP zs f (tiL s L) := by
  rcases h with rfl | ⟨x, hx, rfl⟩ | ⟨x, hx, rfl⟩ | ⟨x, hx, y, hy, rfl⟩
  · exact .inr (.inl ⟨s, hs, rfl⟩)
  · exact .inr (.inl ⟨tiL s x, S.ti s hs x hx, (sg_assoc S hs hx hf).symm⟩)
  · exact .inr (.inr (.inr ⟨s, hs, x, hx, (sg_assoc S hs hf hx).symm⟩))
  · refine .inr (.inr (.inr ⟨tiL s x, S.ti s hs x hx, y, hy, ?_⟩))
    rw [← sg_assoc S hs (S.ti x hx f hf) hy, ← sg_assoc S hs hx hf]
end
theorem idl_least {zs : List (List Int)} {f : List Int} {P : List Int → Prop} (h0 : P f) (hr : ∀ L, P L → ∀ s ∈ zs, P (tiL L s)) (hl : ∀ L, P L → ∀ s ∈ zs, P (tiL s L)) {L : List Int} (h : idlP zs f L) : P L := by
  rcases h with rfl | ⟨x, hx, rfl⟩ | ⟨x, hx, rfl⟩ | ⟨x, hx, y, hy, rfl⟩
  · exact h0
  · exact hl _ h0 x hx
  · exact hr _ h0 x hx
  · exact hr _ (hl _ h0 x hx) y hy

/-- a sorted list with just the entries of zs for which it holds -/
theorem srt_filter {zs S : List (List Int)} {p : List Int → Bool} (hz : Srt zs) (hS : Srt S) (h : ∀ L, L ∈ S ↔ L ∈ zs ∧ p L = true) : S = zs.filter p := by
  have pw : ∀ {l : List (List Int)}, Srt l → l.Pairwise (fun a b => lexB a b = true) := fun {l} hl => by
    rw [List.pairwise_iff_getElem]
    intro i j hi hj hij
    have := hl i j hij hj
    unfold ent at this
    rw [List.getElem?_eq_getElem hi, List.getElem?_eq_getElem hj] at this
    exact this
  have nd : ∀ {l : List (List Int)}, l.Pairwise (fun a b => lexB a b = true) → l.Nodup := fun {l} hl => hl.imp (fun {a b} h e => by rw [e, lexB_irrefl] at h; cases h)
  have p1 := pw hS
  have p2 := (pw hz).filter p
  refine eq_of_srt ((List.perm_ext_iff_of_nodup (nd p1) (nd p2)).2 (fun L => by rw [h L, List.mem_filter])) (fun a b _ _ h1 h2 => ?_) p1 p2
  rw [lexB_asymm h1] at h2; cases h2
theorem placed_sorted {ls S : List (List Int)} {m : Nat} (hp : Placed ls S) (hn : ls.Nodup) (hz : ∀ L ∈ ls, isC L = true ∧ L.length = m) : Srt S := by
  have hS : ∀ L ∈ S, isC L = true ∧ L.length = m := fun L hL => hz L (hp.perm.mem_iff.1 hL)
  intro i j hij hj
  have h1 := hp.srt i j hij hj
  have hi : i < S.length := by omega
  have e1 := hS _ (ent_mem hi)
  have e2 := hS _ (ent_mem hj)
  rw [lt6_eq (by rw [e1.2, e2.2]) (isC_len e2.1).2] at h1
  cases h2 : lexB (ent S i) (ent S j)
  · exfalso
    have he := lexB_total h2 h1
    have hnd := (hp.perm.nodup_iff).2 hn
    unfold ent at he
    rw [List.getElem?_eq_getElem hi, List.getElem?_eq_getElem hj] at he
    exact (List.pairwise_iff_getElem.1 hnd) i j hi hj hij he
  · rfl
end

end Go.Proofs.YtigapanfihpgaaaGreatDoor
