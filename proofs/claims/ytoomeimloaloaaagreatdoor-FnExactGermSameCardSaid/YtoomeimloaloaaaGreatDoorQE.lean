/-
  Bf7.
-/
import Derived.Test.YtoomeimloaloaaaGreatDoorPN
import Derived.Test.YtoomeimloaloaaaGreatDoorQA
import Derived.Test.YtoomeimloaloaaaGreatDoorQD
namespace Go.Proofs.YtoomeimloaloaaaGreatDoor
set_option maxRecDepth 100000
set_option linter.unusedVariables false
set_option linter.unusedSimpArgs false
set_option linter.unusedSectionVars false

/-! two germs are the same: mathematics (giB = gsB). -/
section
open Go.RowKit Go.Maps

theorem fold_bit (j : Nat) : ∀ (Ls : List (List Int)) (m : Nat), (Ls.foldl (fun m L => m &&& doN L) m).testBit j = (m.testBit j && Ls.all (fun L => (doN L).testBit j))
  | [], m => by simp
  | L :: Ls, m => by rw [List.foldl_cons, fold_bit j Ls, Nat.testBit_and, List.all_cons, Bool.and_assoc]
theorem ld_bit {j : Nat} (hj : j < 6) (Ls : List (List Int)) : (ldN Ls).testBit j = Ls.all (fun L => (doN L).testBit j) := by
  unfold ldN
  rw [fold_bit]
  have : (63 : Nat).testBit j = true := by
    rcases (show j = 0 ∨ j = 1 ∨ j = 2 ∨ j = 3 ∨ j = 4 ∨ j = 5 by omega) with rfl | rfl | rfl | rfl | rfl | rfl <;> decide
  rw [this, Bool.true_and]
theorem idem_at3 {f : List Int} (h : isC f = true) : doN (tiL f (tuL f)) = doN f ∧ idB (tiL f (tuL f)) = true := by
  obtain ⟨h1, _, h3⟩ := domain_law h
  obtain ⟨_, h5, h6⟩ := set_law h1
  rw [h3]
  exact ⟨by omega, h6⟩
theorem idem_on {e f : List Int} (h : isP e f = true) (he : idB e = true) {j : Nat} (hj : j < e.length) : ofL (tiL e f) j = if (doN e).testBit j = true then ofL f j else -1 := by
  obtain ⟨ce, cf, hl⟩ := isP_yes h
  rw [tiL_get h hj, doN_bit ce]
  unfold cmp
  rcases (idB_iff ce).1 he j hj with e1 | e1
  · rw [e1, if_neg (by omega), if_neg (by simp)]
  · rw [e1, if_pos (by omega), if_pos (by simp [hj])]; rfl
theorem two_idem {e f : List Int} (h : isP e f = true) (he : idB e = true) (hf : idB f = true) : idB (tiL e f) = true ∧ ∀ j, (doN (tiL e f)).testBit j = ((doN e).testBit j && (doN f).testBit j) := by
  obtain ⟨ce, cf, hl⟩ := isP_yes h
  have ct := tiL_isC h
  have lt := tiL_len h
  constructor
  · refine (idB_iff ct).2 (fun j hj => ?_)
    rw [idem_on h he (by omega)]
    split
    · exact (idB_iff cf).1 hf j (by omega)
    · exact .inl rfl
  · intro j
    rw [doN_bit ct]
    by_cases hj : j < e.length
    · rw [idem_on h he hj, decide_eq_true (show j < (tiL e f).length by omega), Bool.true_and, doN_bit cf, decide_eq_true (show j < f.length by omega), Bool.true_and]
      by_cases hb : (doN e).testBit j = true
      · rw [if_pos hb, hb, Bool.true_and]
      · rw [if_neg hb, Bool.eq_false_iff.2 hb, Bool.false_and]; rfl
    · rw [doN_bit ce, decide_eq_false (show ¬ j < (tiL e f).length by omega), decide_eq_false hj]; rfl
theorem obj_and {zs : List (List Int)} (S : Sg zs) : ∀ (Ls : List (List Int)), (∀ L ∈ Ls, L ∈ zs) → ∀ E0 ∈ zs, idB E0 = true → ∃ E ∈ zs, idB E = true ∧ ∀ j, (doN E).testBit j = ((doN E0).testBit j && Ls.all (fun L => (doN L).testBit j))
  | [], _, E0, h0, hi => ⟨E0, h0, hi, fun j => by simp⟩
  | L :: Ls, hL, E0, h0, hi => by
    have hz := hL L (List.mem_cons_self ..)
    have cL := S.ch L hz
    obtain ⟨i1, i2⟩ := idem_at3 cL.1
    have hI := S.ti L hz _ (S.tu L hz)
    have cI := S.ch _ hI
    have c0 := S.ch E0 h0
    obtain ⟨t1, t2⟩ := two_idem (isP_of c0.1 cI.1 (c0.2.trans cI.2.symm)) hi i2
    obtain ⟨E, e1, e2, e3⟩ := obj_and S Ls (fun M hM => hL M (List.mem_cons_of_mem _ hM)) _ (S.ti E0 h0 _ hI) t1
    exact ⟨E, e1, e2, fun j => by rw [e3, t2, i1, List.all_cons, Bool.and_assoc]⟩
theorem at_mv {zs : List (List Int)} {f : List Int} {p : Int} : f ∈ atLs zs p ↔ sgS zs = true ∧ mvD zs f p = true := by
  constructor
  · intro h
    obtain ⟨hS, h0, hp, hz, hm⟩ := atLs_mem h
    have c := (sgS_iff.1 hS).ch f hz
    have hl : f.length = m0 zs := c.2
    refine ⟨hS, ?_⟩
    unfold mvB at hm
    rw [doN_bit c.1, Bool.and_eq_true, decide_eq_true_eq, decide_eq_true_eq] at hm
    unfold mvD
    rw [Bool.and_eq_true, Bool.and_eq_true, decide_eq_true_eq, decide_eq_true_eq]
    refine ⟨hz, ?_, ?_⟩
    · unfold inB; exact decide_eq_true ⟨h0, by omega⟩
    · rcases plc_ent c.1 hm.1 with e | ⟨q, _, e⟩
      · exact absurd e hm.2
      · omega
  · rintro ⟨hS, h⟩
    unfold mvD at h
    rw [Bool.and_eq_true, Bool.and_eq_true, decide_eq_true_eq, decide_eq_true_eq] at h
    obtain ⟨hz, hb, h0⟩ := h
    have c := (sgS_iff.1 hS).ch f hz
    have hl : f.length = m0 zs := c.2
    have hpb : 0 ≤ p ∧ p ≤ (f.length : Int) - 1 := by unfold inB at hb; exact of_decide_eq_true hb
    have hok : atOK zs p = true := atOK_iff.2 ⟨hS, hpb.1, by omega⟩
    unfold atLs
    rw [if_pos hok]
    refine List.mem_filter.2 ⟨hz, ?_⟩
    unfold mvB
    rw [doN_bit c.1, Bool.and_eq_true, decide_eq_true_eq, decide_eq_true_eq]
    exact ⟨by omega, by omega⟩
theorem ge_gm {zs : List (List Int)} {f g : List Int} {p : Int} (hf : f ∈ atLs zs p) (hg : g ∈ atLs zs p) : geB f g (ldN (atLs zs p)) = gmB zs f g p.toNat := by
  obtain ⟨hS, h0, hp, hfz, _⟩ := atLs_mem hf
  obtain ⟨_, _, _, hgz, _⟩ := atLs_mem hg
  have S := sgS_iff.1 hS
  have cf := S.ch f hfz
  have cg := S.ch g hgz
  have lf : f.length = m0 zs := cf.2
  have lg : g.length = m0 zs := cg.2
  have h6 := (isC_len cf.1).2
  have hLz : ∀ L ∈ atLs zs p, L ∈ zs ∧ mvB p L = true := fun L h => by obtain ⟨_, _, _, a, b⟩ := atLs_mem h; exact ⟨a, b⟩
  have hbit : ∀ j, j < 6 → (ldN (atLs zs p)).testBit j = (atLs zs p).all (fun L => (doN L).testBit j) := fun j hj => ld_bit hj _
  rw [Bool.eq_iff_iff]
  unfold geB gmB
  rw [decide_eq_true_eq, List.any_eq_true]
  constructor
  · intro h
    obtain ⟨i1, i2⟩ := idem_at3 cf.1
    obtain ⟨E, e1, e2, e3⟩ := obj_and S (atLs zs p) (fun L hL => (hLz L hL).1) _ (S.ti f hfz _ (S.tu f hfz)) i2
    have cE := S.ch E e1
    have lE : E.length = m0 zs := cE.2
    have hEf := isP_of cE.1 cf.1 (cE.2.trans cf.2.symm)
    have hEb : ∀ j, j < 6 → (doN E).testBit j = (ldN (atLs zs p)).testBit j := fun j hj => by
      rw [e3, i1, hbit j hj]
      cases ha : (atLs zs p).all (fun L => (doN L).testBit j)
      · rw [Bool.and_false]
      · rw [Bool.and_true]; exact List.all_eq_true.1 ha f hf
    have ct := tiL_isC hEf
    have lt := tiL_len hEf
    have hpE : (doN E).testBit p.toNat = true := by
      rw [hEb _ (by omega), hbit _ (by omega), List.all_eq_true]
      exact fun L hL => (hLz L hL).2
    refine ⟨tiL E f, S.ti E e1 f hfz, ?_⟩
    unfold gmP
    rw [Bool.and_eq_true, Bool.and_eq_true, decide_eq_true_eq]
    refine ⟨?_, (beB_iff (isP_of ct cf.1 (by omega))).2 (fun j hj => ?_), (beB_iff (isP_of ct cg.1 (by omega))).2 (fun j hj => ?_)⟩
    · rw [idem_on hEf e2 (by omega), if_pos hpE]
      have := (at_mv.1 hf).2
      unfold mvD at this
      rw [Bool.and_eq_true, Bool.and_eq_true, decide_eq_true_eq, decide_eq_true_eq] at this
      exact this.2.2
    · rw [idem_on hEf e2 (by omega)]
      split
      · exact .inr rfl
      · exact .inl rfl
    · rw [idem_on hEf e2 (by omega)]
      split
      · rename_i hb
        exact .inr (h j (by omega) (by rw [← hEb j (by omega)]; exact hb))
      · exact .inl rfl
  · rintro ⟨L, hL, hm⟩ j hj hb
    unfold gmP at hm
    rw [Bool.and_eq_true, Bool.and_eq_true, decide_eq_true_eq] at hm
    obtain ⟨hp0, b1, b2⟩ := hm
    have cL := S.ch L hL
    have lL : L.length = m0 zs := cL.2
    have hLa : L ∈ atLs zs p := at_mv.2 ⟨hS, by
      unfold mvD
      rw [Bool.and_eq_true, Bool.and_eq_true, decide_eq_true_eq, decide_eq_true_eq]
      exact ⟨hL, by unfold inB; exact decide_eq_true ⟨h0, by omega⟩, hp0⟩⟩
    rw [hbit j (by omega)] at hb
    have hj1 := List.all_eq_true.1 hb L hLa
    rw [doN_bit cL.1, Bool.and_eq_true, decide_eq_true_eq, decide_eq_true_eq] at hj1
    rcases (beB_iff (beB_isP b1)).1 b1 j (by omega) with e | e
    · exact absurd e hj1.2
    · rcases (beB_iff (beB_isP b2)).1 b2 j (by omega) with e' | e'
      · exact absurd e' hj1.2
      · rw [← e, ← e']
theorem gi_gs (zs : List (List Int)) (f g : List Int) (p : Int) : giB zs f g p = gsB zs f g p := by
  unfold giB gsB
  by_cases hf : f ∈ atLs zs p
  · obtain ⟨hS, mf⟩ := at_mv.1 hf
    rw [decide_eq_true hf, hS, mf, Bool.true_and, Bool.true_and, Bool.true_and]
    by_cases hg : g ∈ atLs zs p
    · rw [decide_eq_true hg, (at_mv.1 hg).2, Bool.true_and, Bool.true_and, ge_gm hf hg]
    · have : mvD zs g p = false := by
        cases e : mvD zs g p
        · rfl
        · exact absurd (at_mv.2 ⟨hS, e⟩) hg
      rw [decide_eq_false hg, this, Bool.false_and, Bool.false_and]
  · rw [decide_eq_false hf, Bool.false_and]
    cases hS : sgS zs
    · rfl
    · have : mvD zs f p = false := by
        cases e : mvD zs f p
        · rfl
        · exact absurd (at_mv.2 ⟨hS, e⟩) hf
      rw [this]; rfl
theorem implGs_any (A B C : Option Addr) (n c m d m' d' : Nat) (zs : List (List Int)) (f g : List Int) (p : Int) (w : World) (h : RSS w A n zs) (hf : RI w B m f) (hg : RI w C m' g) (he : EtAt w) :
    Calls Tryz.prog 29 #[.slice A n c, .slice B m d, .slice C m' d', .int .i64 p] w fun e w' => e = .returned (.bool (gsB zs f g p)) ∧ Below w.heap.size w w' := by
  rw [← gi_gs]; exact implGsame_any A B C n c m d m' d' zs f g p w h hf hg he
end

end Go.Proofs.YtoomeimloaloaaaGreatDoor
