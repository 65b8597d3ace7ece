/-
  Plw.
-/
import Derived.Test.YtigapanfihpgaaaGreatDoorMC
import Derived.Test.YtigapanfihpgaaaGreatDoorOK
namespace Go.Proofs.YtigapanfihpgaaaGreatDoor
set_option maxRecDepth 100000
set_option linter.unusedVariables false
set_option linter.unusedSimpArgs false
set_option linter.unusedSectionVars false

/-! What the laws FnSemigroup and FnSemigroupOf say of lists; no program. -/
section
/-- a semigroup is made of its charts -/
theorem sg_whole {zs : List (List Int)} (S : Sg zs) : Whole zs zs := by
  have hf : ∀ L ∈ facs zs, L ∈ zs := fun L hL => by
    rcases List.mem_append.1 hL with h | h
    · exact h
    · obtain ⟨M, hM, rfl⟩ := List.mem_map.1 h
      exact S.tu M hM
  exact ⟨S.srt, S.most, fun P h1 _ L hL => h1 L (List.mem_append_left _ hL), hf, fun L hL M hM => by
    obtain ⟨d, hd, rfl⟩ := hM
    exact S.ti L hL d (hf d hd)⟩
theorem sg_cf {zs : List (List Int)} (S : Sg zs) (h : zs.length ≤ 6) : cfB zs 6 = true := by
  unfold cfB
  rw [Bool.and_eq_true, decide_eq_true_eq, chB_iff]
  exact ⟨⟨S.one, S.ch⟩, h⟩
theorem sg_ofs {zs OL : List (List Int)} {OB : Bool} (hS : sgS zs = true) (h : zs.length ≤ 6) (hO : Ofs zs OL OB) : OL = zs ∧ OB = true :=
  ofs_yes hO (sg_cf (sgS_iff.1 hS) h) (sg_whole (sgS_iff.1 hS))
/-- what has all products with the factors behind is a semigroup -/
theorem whole_sg {zs OL : List (List Int)} (hc : cfB zs 6 = true) (hw : Whole zs OL) : Sg OL := by
  have hz : 1 ≤ zs.length ∧ ∀ L ∈ zs, isC L = true ∧ L.length = (ent zs 0).length := by
    have hc' := hc
    unfold cfB at hc'
    rw [Bool.and_eq_true, chB_iff] at hc'
    exact hc'.1
  generalize (ent zs 0).length = m at hz
  obtain ⟨h1, hz⟩ := hz
  have hO : ∀ L ∈ OL, isC L = true ∧ L.length = m := hw.from_ (fun L => isC L = true ∧ L.length = m) (facs_ch hz) (nxR_ch hz)
  have hF := facs_ch hz
  have hP : ∀ {L M : List Int}, (isC L = true ∧ L.length = m) → (isC M = true ∧ M.length = m) → isP L M = true := fun hL hM => isP_of hL.1 hM.1 (hL.2.trans hM.2.symm)
  have hti : ∀ M ∈ OL, ∀ L ∈ OL, tiL L M ∈ OL := by
    intro M hM
    have := hw.from_ (fun M => M ∈ OL ∧ ∀ L ∈ OL, tiL L M ∈ OL) (fun d hd => ⟨hw.st d hd, fun L hL => hw.cl L hL _ ⟨d, hd, rfl⟩⟩) (fun M hM K hK => by
      obtain ⟨d, hd, rfl⟩ := hK
      refine ⟨hw.cl M hM.1 _ ⟨d, hd, rfl⟩, fun L hL => ?_⟩
      have hass := (tiL_assoc (hP (hO L hL) (hO M hM.1)) (hP (hO M hM.1) (hF d hd))).2.2
      rw [← hass]
      exact hw.cl _ (hM.2 L hL) _ ⟨d, hd, rfl⟩) M hM
    exact this.2
  have htu : ∀ M ∈ OL, tuL M ∈ OL := by
    intro M hM
    have := hw.from_ (fun M => M ∈ OL ∧ tuL M ∈ OL) (fun d hd => ⟨hw.st d hd, by
      rcases List.mem_append.1 hd with h | h
      · exact hw.st _ (List.mem_append_right _ (List.mem_map.2 ⟨d, h, rfl⟩))
      · obtain ⟨L, hL, rfl⟩ := List.mem_map.1 h
        rw [tuL_tuL (hz L hL).1]
        exact hw.st _ (List.mem_append_left _ hL)⟩) (fun M hM K hK => by
      obtain ⟨d, hd, rfl⟩ := hK
      refine ⟨hw.cl M hM.1 _ ⟨d, hd, rfl⟩, ?_⟩
      rw [(tuL_tiL (hP (hO M hM.1) (hF d hd))).2]
      refine hti _ hM.2 _ ?_
      rcases List.mem_append.1 hd with h | h
      · exact hw.st _ (List.mem_append_right _ (List.mem_map.2 ⟨d, h, rfl⟩))
      · obtain ⟨L, hL, rfl⟩ := List.mem_map.1 h
        rw [tuL_tuL (hz L hL).1]
        exact hw.st _ (List.mem_append_left _ hL)) M hM
    exact this.2
  have hne : 0 < OL.length := List.length_pos_of_mem (hw.st _ (List.mem_append_left _ (ent_mem (show 0 < zs.length by omega))))
  exact ⟨hne, hw.most, fun L hL => ⟨(hO L hL).1, (hO L hL).2.trans (hO _ (ent_mem hne)).2.symm⟩, hw.srt, htu, fun L hL M hM => hti M hM L hL⟩
theorem ofs_sg {zs OL : List (List Int)} (hO : Ofs zs OL true) : sgS OL = true ∧ ∀ L ∈ zs, L ∈ OL := by
  rcases hO with ⟨⟨h1, hw⟩, _⟩ | ⟨_, _, h⟩
  · exact ⟨sgS_iff.2 (whole_sg h1 hw), fun L hL => hw.st _ (List.mem_append_left _ hL)⟩
  · cases h
theorem facs_rev {zs : List (List Int)} {L : List Int} : L ∈ facs zs.reverse ↔ L ∈ facs zs := by
  unfold facs
  rw [List.mem_append, List.mem_append, List.mem_map, List.mem_map, List.mem_reverse]
  constructor
  · rintro (h | ⟨M, hM, e⟩)
    · exact .inl h
    · exact .inr ⟨M, List.mem_reverse.1 hM, e⟩
  · rintro (h | ⟨M, hM, e⟩)
    · exact .inl h
    · exact .inr ⟨M, List.mem_reverse.2 hM, e⟩
/-- in the opposite order -/
theorem ofs_rev {zs OL PL : List (List Int)} {PB : Bool} (hO : Ofs zs OL true) (hR : Ofs zs.reverse PL PB) : PL = OL ∧ PB = true := by
  rcases hO with ⟨⟨h1, hw⟩, _⟩ | ⟨_, _, h⟩
  · refine ofs_yes hR ?_ ⟨hw.srt, hw.most, fun P p1 p2 L hL => hw.from_ P (fun L h => p1 L (facs_rev.2 h)) (fun L hL M hM => p2 L hL M (by obtain ⟨d, hd, e⟩ := hM; exact ⟨d, facs_rev.2 hd, e⟩)) L hL, fun L h => hw.st L (facs_rev.1 h), fun L hL M hM => hw.cl L hL M (by obtain ⟨d, hd, e⟩ := hM; exact ⟨d, facs_rev.1 hd, e⟩)⟩
    unfold cfB at h1 ⊢
    rw [Bool.and_eq_true, chB_iff, decide_eq_true_eq] at h1 ⊢
    refine ⟨⟨by rw [List.length_reverse]; exact h1.1.1, fun L hL => ?_⟩, by rw [List.length_reverse]; exact h1.2⟩
    have hL' := h1.1.2 L (List.mem_reverse.1 hL)
    have h0 := h1.1.2 (ent zs.reverse 0) (List.mem_reverse.1 (ent_mem (by rw [List.length_reverse]; exact h1.1.1)))
    exact ⟨hL'.1, hL'.2.trans h0.2.symm⟩
  · cases h
/-- is it among the first k -/
def anyK (zs : List (List Int)) (a : List Int) (k : Nat) : Bool := (zs.take k).any (fun L => decide (L = a))
theorem anyK_succ {zs : List (List Int)} {a : List Int} {k : Nat} (hk : k < zs.length) : anyK zs a (k + 1) = (anyK zs a k || decide (ent zs k = a)) := by
  have e : ent zs k = zs[k] := by unfold ent; rw [List.getElem?_eq_getElem hk]; rfl
  unfold anyK
  rw [List.take_succ_eq_append_getElem hk, List.any_append, e]; simp
theorem anyK_all {zs : List (List Int)} {a : List Int} {k : Nat} (hk : zs.length ≤ k) (h : a ∈ zs) : anyK zs a k = true := by
  unfold anyK
  rw [List.take_of_length_le hk, List.any_eq_true]
  exact ⟨a, h, by simp⟩
end

end Go.Proofs.YtigapanfihpgaaaGreatDoor
