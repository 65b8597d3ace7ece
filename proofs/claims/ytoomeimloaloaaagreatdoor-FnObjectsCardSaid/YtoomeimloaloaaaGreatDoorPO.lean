/-
  Av7.
-/
import Derived.Test.YtoomeimloaloaaaGreatDoorNV
import Derived.Test.YtoomeimloaloaaaGreatDoorOK
import Derived.Test.YtoomeimloaloaaaGreatDoorOT
import Derived.Test.YtoomeimloaloaaaGreatDoorPI
namespace Go.Proofs.YtoomeimloaloaaaGreatDoor
set_option maxRecDepth 100000
set_option linter.unusedVariables false
set_option linter.unusedSimpArgs false
set_option linter.unusedSectionVars false

/-! draw of ArrowObjects; the objects are as many as the charts that move no point to another one. -/
section
open Go.RowKit Go.Maps

theorem nums_nodup {l : List Int} (h : l.Nodup) : (nums l).length = l.length := by
  have h2 : (nums l).Nodup := (nums_asc l).imp (fun h => by omega)
  exact ((List.perm_ext_iff_of_nodup h2 h).2 (fun x => nums_mem l x)).length_eq
theorem map_nodup {zs : List (List Int)} {g : List Int → Int} (h : zs.Nodup) (hi : ∀ L ∈ zs, ∀ M ∈ zs, g L = g M → L = M) : (zs.map g).Nodup := by
  unfold List.Nodup at h ⊢
  rw [List.pairwise_map]
  exact List.Pairwise.imp_of_mem (fun hL hM hne e => hne (hi _ hL _ hM e)) h
theorem idem_dom {f g : List Int} (hf : isC f = true) (hg : isC g = true) (hif : idB f = true) (hig : idB g = true) (hl : f.length = g.length) (hd : doN f = doN g) : f = g := by
  refine ofL_ext (n := f.length) rfl hl.symm (fun j hj => ?_)
  have h1 := doN_bit hf j
  have h2 := doN_bit hg j
  rw [hd, h2] at h1
  have e1 := (idB_iff hf).1 hif j hj
  have e2 := (idB_iff hg).1 hig j (by omega)
  rcases e1 with e1 | e1 <;> rcases e2 with e2 | e2
  · rw [e1, e2]
  · exfalso
    rw [e1, e2, decide_eq_true (show j < g.length by omega), decide_eq_true (show j < f.length by omega), decide_eq_true (show (j : Int) ≠ -1 by omega)] at h1
    simp at h1
  · exfalso
    rw [e1, e2, decide_eq_true (show j < g.length by omega), decide_eq_true (show j < f.length by omega), decide_eq_true (show (j : Int) ≠ -1 by omega)] at h1
    simp at h1
  · rw [e1, e2]
theorem idem_at {f : List Int} (h : isC f = true) : doN (tiL f (tuL f)) = doN f ∧ idB (tiL f (tuL f)) = true := by
  obtain ⟨h1, _, h3⟩ := domain_law h
  obtain ⟨_, h5, h6⟩ := set_law h1
  rw [h3]
  exact ⟨by omega, h6⟩
theorem obj_len {zs : List (List Int)} (h : sgS zs = true) : (idL zs).length = (objI zs).length := by
  have S := sgS_iff.1 h
  have hI : idL zs = zs.filter idB := by unfold idL; rw [h]; rfl
  rw [objI_yes h, hI]
  have hn : ((zs.filter idB).map doI).Nodup := by
    refine map_nodup (List.Pairwise.filter _ (srt_nodup S.srt)) (fun L hL M hM e => ?_)
    obtain ⟨hL1, hL2⟩ := List.mem_filter.1 hL
    obtain ⟨hM1, hM2⟩ := List.mem_filter.1 hM
    have c1 := S.ch L hL1
    have c2 := S.ch M hM1
    unfold doI at e
    exact idem_dom c1.1 c2.1 hL2 hM2 (c1.2.trans c2.2.symm) (by omega)
  have e : nums (zs.map doI) = nums ((zs.filter idB).map doI) := by
    refine nums_is (nums_asc _) (fun x => ?_)
    rw [nums_mem, List.mem_map, List.mem_map]
    constructor
    · rintro ⟨L, hL, rfl⟩
      exact ⟨L, (List.mem_filter.1 hL).1, rfl⟩
    · rintro ⟨L, hL, rfl⟩
      obtain ⟨h1, h2⟩ := idem_at (S.ch L hL).1
      exact ⟨tiL L (tuL L), List.mem_filter.2 ⟨S.ti L hL _ (S.tu L hL), h2⟩, by unfold doI; rw [h1]⟩
  rw [e, nums_nodup hn, List.length_map]
theorem objI_up {zs : List (List Int)} {p k : Nat} (hk : p + 1 = k) (h : k < (objI zs).length) : ((objI zs)[p]?.getD 0) < ((objI zs)[k]?.getD 0) := by
  have ha : Asc (objI zs) := nums_asc _
  rw [List.getElem?_eq_getElem h, List.getElem?_eq_getElem (show p < (objI zs).length by omega)]
  exact List.pairwise_iff_getElem.1 ha p k (by omega) h (by omega)
theorem objI_one {zs : List (List Int)} (h : sgS zs = true) : 1 ≤ (objI zs).length := by
  have S := sgS_iff.1 h
  have hz := S.one
  obtain ⟨L, hL⟩ : ∃ L, L ∈ zs := ⟨_, ent_mem (show 0 < zs.length by omega)⟩
  have : doI L ∈ objI zs := by rw [objI_yes h, nums_mem]; exact List.mem_map.2 ⟨L, hL, rfl⟩
  exact List.length_pos_of_mem this
theorem drawSgObjects_any (A : Option Addr) (n c : Nat) (bs : Nat → Nat) (w : World) (h : Src w w.heap.size A n bs) (hnc : n ≤ c) (hn : n ≤ 1048576) :
    Calls Tryz.prog 34 #[.slice A n c] w (DrwL w) := by
  go_enter Tryz.func34, Tryz.ntmps34
  go_wp2_with fail
  refine (l91Some_any A n c bs w h hnc hn).mono ?_
  rintro e w2 ⟨A2, n2, c2, zs, rfl, hr⟩
  go_wp2
  go_ret
  exact ⟨_, _, _, zs, rfl, hr⟩
end

end Go.Proofs.YtoomeimloaloaaaGreatDoor
