/-
  Ply.
-/
import Derived.Test.YtigapanfihpgaaaGreatDoorOC
import Derived.Test.YtigapanfihpgaaaGreatDoorOW
namespace Go.Proofs.YtigapanfihpgaaaGreatDoor
set_option maxRecDepth 100000
set_option linter.unusedVariables false
set_option linter.unusedSimpArgs false
set_option linter.unusedSectionVars false

/-! What the laws of chapter 3 say of bottoms, ideals, classes and groups; no program. -/
section
theorem sgW_iff {zs : List (List Int)} (h : sgW zs = true) : sgS zs = true ∧ ∀ e ∈ zs, idB e = true → ∀ c ∈ zs, tiL e c = tiL c e := by
  unfold sgW at h
  rw [Bool.and_eq_true] at h
  refine ⟨h.1, fun e he hi c hc => ?_⟩
  have h1 := List.all_eq_true.1 h.2 e (List.mem_filter.2 ⟨he, hi⟩)
  exact of_decide_eq_true (List.all_eq_true.1 h1 c hc)
theorem boL_is {zs : List (List Int)} (h : boB zs = true) : sgS zs = true ∧ boL zs ∈ zs ∧ ∀ L ∈ zs, beB (boL zs) L = true := by
  unfold boB at h
  rw [Bool.and_eq_true] at h
  obtain ⟨L, hL, hb⟩ := List.any_eq_true.1 h.2
  have e := (boL_yes h.1 hL hb).1
  rw [e]
  exact ⟨h.1, hL, fun M hM => List.all_eq_true.1 hb M hM⟩
theorem bottom_law {zs : List (List Int)} (S : Sg zs) {b L : List Int} (hb : b ∈ zs) (hL : L ∈ zs) (hbl : beB b L = true) : isP b L = true ∧ isP L b = true ∧ (idB b = true → tiL b L = b ∧ tiL L b = b) := by
  have Cb := (S.ch b hb).1
  have CL := (S.ch L hL).1
  have hl : b.length = L.length := (S.ch b hb).2.trans (S.ch L hL).2.symm
  have p1 := isP_of Cb CL hl
  have p2 := isP_of CL Cb hl.symm
  have hB := (beB_iff p1).1 hbl
  refine ⟨p1, p2, fun hi => ?_⟩
  have ib := (idB_iff Cb).1 hi
  refine ⟨ofL_ext (tiL_len p1) rfl fun j hj => ?_, ofL_ext (tiL_len p2) hl fun j hj => ?_⟩
  · rw [tiL_get p1 hj]
    rcases ib j hj with e | e
    · rw [cmp_none e, e]
    · rw [cmp_some e hj]
      rcases hB j hj with h | h
      · omega
      · exact h.symm
  · rw [tiL_get p2 hj]
    by_cases hn : ofL L j = -1
    · rw [cmp_none hn]
      rcases hB j (by omega) with h | h
      · exact h.symm
      · rw [h, hn]
    · obtain ⟨m, hm, hjm⟩ := pt_of CL hj hn
      rw [cmp_some hjm hm]
      rcases ib m (by omega) with e | e
      · rw [e]
        rcases ib j (by omega) with e' | e'
        · exact e'.symm
        · rcases hB j (by omega) with h | h
          · exact h.symm
          · have : j = m := by omega
            subst this; omega
      · rw [e]
        rcases hB m (by omega) with h | h
        · omega
        · have hmm : ofL L m = (m : Int) := by rw [← h, e]
          have := (isC_CH CL).inj j m hj hm hn (by rw [hjm, hmm])
          subst this; exact e.symm
/-- ideals -/
theorem filter_le {zs : List (List Int)} {p q : List Int → Bool} (h : ∀ L ∈ zs, p L = true → q L = true) : (zs.filter p).length ≤ (zs.filter q).length := by
  rw [← List.countP_eq_length_filter, ← List.countP_eq_length_filter]
  exact List.countP_mono_left h
theorem ideal_law {zs : List (List Int)} {f : List Int} (hS : swhB zs f = true) : isC f = true ∧ ∀ M ∈ idlL zs f, isC M = true ∧ popK (doN M) 6 ≤ popK (doN f) 6 ∧ swhB zs M = true ∧ (idlL zs M).length ≤ (idlL zs f).length := by
  have hs := swh_iff.1 hS
  have S := sgS_iff.1 hs.1
  have hf := hs.2
  refine ⟨(S.ch f hf).1, fun M hM => ?_⟩
  have hM' : M ∈ zs ∧ idlB zs f M = true := by
    unfold idlL at hM
    rw [hS, if_pos rfl] at hM
    exact List.mem_filter.1 hM
  have hP := idlB_iff.1 hM'.2
  have hM3 : swhB zs M = true := swh_iff.2 ⟨hs.1, hM'.1⟩
  refine ⟨(S.ch M hM'.1).1, ?_, hM3, ?_⟩
  · rcases hP with rfl | ⟨x, hx, rfl⟩ | ⟨x, hx, rfl⟩ | ⟨x, hx, y, hy, rfl⟩
    · exact Nat.le_refl _
    · exact (rank_tiL (sg_isP S hx hf)).2
    · exact (rank_tiL (sg_isP S hf hx)).1
    · exact Nat.le_trans (rank_tiL (sg_isP S (S.ti x hx f hf) hy)).1 (rank_tiL (sg_isP S hx hf)).2
  · unfold idlL
    rw [hS, hM3, if_pos rfl, if_pos rfl]
    exact filter_le fun L hL h => idlB_iff.2 (idl_least (P := idlP zs f) hP (fun L hL s hs' => idl_right S hf hL hs') (fun L hL s hs' => idl_left S hf hL hs') (idlB_iff.1 h))
/-- marks, counted by what they stand for -/
theorem clN_count {sm : List Int → List Int → Bool} {zs T : List (List Int)} {kf : List Int → List Int} (hsm : ∀ L ∈ zs, ∀ M ∈ zs, (sm L M = true ↔ kf L = kf M)) (hT : T.Nodup) (h1 : ∀ x ∈ T, ∃ L, L ∈ zs ∧ kf L = x) (h2 : ∀ L ∈ zs, kf L ∈ T) : clN sm zs zs.length = T.length := by
  have least : ∀ i, i < zs.length → ∃ j, j < zs.length ∧ frB sm zs j j = true ∧ kf (ent zs j) = kf (ent zs i) := by
    intro i
    induction i using Nat.strongRecOn with
    | ind i ih =>
      intro hi
      by_cases h : frB sm zs i i = true
      · exact ⟨i, hi, h, rfl⟩
      · have : ∃ j, j < i ∧ sm (ent zs i) (ent zs j) = true := by
          refine Classical.byContradiction fun hc => h ((frB_iff i).2 fun j hj => ?_)
          cases hs : sm (ent zs i) (ent zs j)
          · rfl
          · exact absurd ⟨j, hj, hs⟩ hc
        obtain ⟨j, hj, hs⟩ := this
        obtain ⟨k, hk, hf, e⟩ := ih j hj (by omega)
        exact ⟨k, hk, hf, e.trans ((hsm _ (ent_mem hi) _ (ent_mem (by omega))).1 hs).symm⟩
  rw [clN_is]
  have hF : (((List.range zs.length).filter (fun i => frB sm zs i i)).map (fun i => kf (ent zs i))).Nodup := by
    unfold List.Nodup
    rw [List.pairwise_map]
    refine List.Pairwise.imp_of_mem ?_ ((List.pairwise_lt_range (n := zs.length)).filter _)
    intro a b ha hb hlt e
    rw [List.mem_filter, List.mem_range] at ha hb
    have := (frB_iff b).1 hb.2 a hlt
    have h := (hsm _ (ent_mem hb.1) _ (ent_mem ha.1)).2 e.symm
    rw [this] at h; cases h
  have hp := (List.perm_ext_iff_of_nodup hF hT).2 (fun x => by
    constructor
    · intro h
      obtain ⟨j, hj, rfl⟩ := List.mem_map.1 h
      exact h2 _ (ent_mem (List.mem_range.1 (List.mem_filter.1 hj).1))
    · intro h
      obtain ⟨L, hL, rfl⟩ := h1 x h
      obtain ⟨i, hi, rfl⟩ := mem_ent hL
      obtain ⟨j, hj, hf, e⟩ := least i hi
      exact List.mem_map.2 ⟨j, List.mem_filter.2 ⟨List.mem_range.2 hj, hf⟩, e⟩)
  rw [← hp.length_eq, List.length_map]
theorem sg_nodup {zs : List (List Int)} (h : Srt zs) : zs.Nodup := by
  unfold List.Nodup
  rw [List.pairwise_iff_getElem]
  intro i j hi hj hij e
  have := h i j hij hj
  unfold ent at this
  rw [List.getElem?_eq_getElem hi, List.getElem?_eq_getElem hj] at this
  simp only [Option.getD_some] at this
  rw [e, lexB_irrefl] at this; cases this
theorem dm_iff {L M : List Int} (hL : isC L = true) (hM : isC M = true) (e : L.length = M.length) : smD L M = true ↔ tiL L (tuL L) = tiL M (tuL M) := by
  have h1 := domain_law hL
  have h2 := domain_law hM
  unfold smD dmN
  rw [decide_eq_true_eq, ← doN_dom hL, ← doN_dom hM, h1.2.2, h2.2.2]
  constructor
  · intro h; rw [h, e]
  · intro h
    have a := (set_law h1.1).2.1
    have b := (set_law h2.1).2.1
    rw [h] at a
    omega
theorem classes_law {zs : List (List Int)} (hS : sgS zs = true) : ∃ a c : Nat, clsL zs = [(a : Int), (a : Int), (c : Int)] ∧ a = (idL zs).length ∧ a ≤ c := by
  have S := sgS_iff.1 hS
  have hid : idL zs = zs.filter idB := by unfold idL; rw [if_pos hS]
  have hnd : (zs.filter idB).Nodup := (sg_nodup S.srt).filter _
  have hlen : ∀ L ∈ zs, ∀ M ∈ zs, L.length = M.length := fun L hL M hM => (S.ch L hL).2.trans (S.ch M hM).2.symm
  have hD : clN smD zs zs.length = (zs.filter idB).length := clN_count (kf := fun L => tiL L (tuL L)) (fun L hL M hM => dm_iff (S.ch L hL).1 (S.ch M hM).1 (hlen L hL M hM)) hnd (fun x hx => by
    have hx' := List.mem_filter.1 hx
    have h := idem_law (S.ch x hx'.1).1 hx'.2
    exact ⟨x, hx'.1, by show tiL x (tuL x) = x; rw [h.2.2]; exact h.2.1⟩) (fun L hL => List.mem_filter.2 ⟨S.ti _ hL _ (S.tu _ hL), (chart_law (S.ch L hL).1).2.2.2⟩)
  have hR : clN smR zs zs.length = (zs.filter idB).length := clN_count (kf := fun L => tiL (tuL L) (tuL (tuL L))) (fun L hL M hM => dm_iff (S.ch _ (S.tu _ hL)).1 (S.ch _ (S.tu _ hM)).1 (hlen _ (S.tu _ hL) _ (S.tu _ hM))) hnd (fun x hx => by
    have hx' := List.mem_filter.1 hx
    have h := idem_law (S.ch x hx'.1).1 hx'.2
    exact ⟨x, hx'.1, by show tiL (tuL x) (tuL (tuL x)) = x; rw [h.2.2, h.2.2]; exact h.2.1⟩) (fun L hL => List.mem_filter.2 ⟨S.ti _ (S.tu _ hL) _ (S.tu _ (S.tu _ hL)), (chart_law (S.ch _ (S.tu _ hL)).1).2.2.2⟩)
  have hE : clN smD zs zs.length ≤ clN smE zs zs.length := by
    rw [clN_is, clN_is, ← List.countP_eq_length_filter, ← List.countP_eq_length_filter]
    refine List.countP_mono_left fun i _ h => ?_
    refine (frB_iff i).2 fun j hj => ?_
    have := (frB_iff i).1 h j hj
    unfold smE; rw [this]; rfl
  refine ⟨clN smD zs zs.length, clN smE zs zs.length, ?_, by rw [hid, hD], hE⟩
  unfold clsL
  rw [if_pos hS, hR, ← hD]
theorem group_law {zs : List (List Int)} (h : sgrB zs = true) : sgS zs = true ∧ clsL zs = [1, 1, 1] ∧ (tpL zs).length = zs.length := by
  unfold sgrB at h
  rw [Bool.and_eq_true, decide_eq_true_eq] at h
  obtain ⟨hS, h1⟩ := h
  have S := sgS_iff.1 hS
  obtain ⟨a, c, hc, ha, _⟩ := classes_law hS
  have hid : idL zs = zs.filter idB := by unfold idL; rw [if_pos hS]
  rw [hid, h1] at ha
  subst ha
  obtain ⟨e, he⟩ : ∃ e, zs.filter idB = [e] := List.length_eq_one_iff.1 h1
  have hone : ∀ x ∈ zs.filter idB, x = e := fun x hx => by rw [he] at hx; exact List.mem_singleton.1 hx
  have hlen : ∀ L ∈ zs, ∀ M ∈ zs, L.length = M.length := fun L hL M hM => (S.ch L hL).2.trans (S.ch M hM).2.symm
  have hk : ∀ L ∈ zs, tiL L (tuL L) = e := fun L hL => hone _ (List.mem_filter.2 ⟨S.ti _ hL _ (S.tu _ hL), (chart_law (S.ch L hL).1).2.2.2⟩)
  have hsD : ∀ L ∈ zs, ∀ M ∈ zs, smD L M = true := fun L hL M hM => (dm_iff (S.ch L hL).1 (S.ch M hM).1 (hlen L hL M hM)).2 ((hk L hL).trans (hk M hM).symm)
  have hsR : ∀ L ∈ zs, ∀ M ∈ zs, smR L M = true := fun L hL M hM => hsD _ (S.tu _ hL) _ (S.tu _ hM)
  have hcE : clN smE zs zs.length = 1 := clN_count (T := [[]]) (kf := fun _ => []) (fun L hL M hM => by
    unfold smE; rw [hsD L hL M hM, hsR L hL M hM]; simp) (by simp) (fun x hx => ⟨ent zs 0, ent_mem S.one, (List.mem_singleton.1 hx).symm⟩) (fun L _ => by simp)
  refine ⟨hS, ?_, ?_⟩
  · have hc' := hc
    unfold clsL at hc' ⊢
    rw [if_pos hS] at hc' ⊢
    rw [hcE] at hc' ⊢
    injection hc' with a1 a2
    injection a2 with a2 _
    rw [a1, a2]; rfl
  · unfold tpL
    rw [if_pos hS]
    congr 1
    rw [List.filter_eq_self]
    intro L hL
    unfold topB
    rw [decide_eq_true_eq]
    obtain ⟨i, hi, rfl⟩ := mem_ent hL
    refine (filter_one hi (beB_refl (S.ch _ hL).1)).2 fun k hk' hne => ?_
    cases hb : beB (ent zs i) (ent zs k)
    · rfl
    · exfalso
      have hM := ent_mem hk'
      have pB := (beB_iff (beB_isP hb)).1 hb
      have hdm := hsD _ hL _ hM
      unfold smD dmN at hdm
      rw [decide_eq_true_eq, ← doN_dom (S.ch _ hL).1, ← doN_dom (S.ch _ hM).1] at hdm
      have heq : ent zs i = ent zs k := ofL_ext rfl (hlen _ hM _ hL) fun j hj => by
        rcases pB j hj with h | h
        · have t1 := doN_bit (S.ch _ hL).1 j
          have t2 := doN_bit (S.ch _ hM).1 j
          rw [hdm, t2] at t1
          rw [h] at t1
          have hj2 : j < (ent zs k).length := by rw [hlen _ hM _ hL]; exact hj
          rw [decide_eq_true hj2] at t1
          simp at t1
          omega
        · exact h
      rcases Nat.lt_or_gt_of_ne hne with h | h
      · have := S.srt k i h hi
        rw [heq, lexB_irrefl] at this; cases this
      · have := S.srt i k h hk'
        rw [heq, lexB_irrefl] at this; cases this
end

end Go.Proofs.YtigapanfihpgaaaGreatDoor
