/-
  Plx.
-/
import Derived.Test.YtigapanfihpgaaaGreatDoorNT
import Derived.Test.YtigapanfihpgaaaGreatDoorNX
import Derived.Test.YtigapanfihpgaaaGreatDoorOA
import Derived.Test.YtigapanfihpgaaaGreatDoorOF
namespace Go.Proofs.YtigapanfihpgaaaGreatDoor
set_option maxRecDepth 100000
set_option linter.unusedVariables false
set_option linter.unusedSimpArgs false
set_option linter.unusedSectionVars false

/-! What the laws of chapter 3 say of charts: idempotents, what lies below, unitary and swapping semigroups; no program. -/
section
theorem cmp_some {n : Nat} {F G : Nat → Int} {j m : Nat} (h : F j = (m : Int)) (hm : m < n) : cmp n F G j = G m := by
  unfold cmp; rw [if_pos (by omega), h, Int.toNat_natCast]
theorem cmp_none {n : Nat} {F G : Nat → Int} {j : Nat} (h : F j = -1) : cmp n F G j = -1 := by unfold cmp; rw [if_neg (by omega)]
theorem pt_of {f : List Int} (h : isC f = true) {j : Nat} (hj : j < f.length) (hne : ofL f j ≠ -1) : ∃ m : Nat, m < f.length ∧ ofL f j = (m : Int) := by
  rcases en_ofL h j hj with h1 | h1
  · exact absurd h1 hne
  · exact ⟨(ofL f j).toNat, by omega, by omega⟩
/-- what moves nothing to another point: the products both ways and the meet -/
theorem idems_law {e f : List Int} (h : isP e f = true) (he : idB e = true) (hf : idB f = true) : isP f e = true ∧ tiL e f = tiL f e ∧ tiL e f = meL e f := by
  have hp := isP_yes h
  have h' : isP f e = true := isP_of hp.2.1 hp.1 hp.2.2.symm
  have ie := (idB_iff hp.1).1 he
  have if_ := (idB_iff hp.2.1).1 hf
  have key : ∀ j, j < e.length → ofL (tiL e f) j = (if ofL f j = ofL e j then ofL e j else -1) ∧ ofL (tiL f e) j = (if ofL f j = ofL e j then ofL e j else -1) := fun j hj => by
    have hj' : j < f.length := by rw [← hp.2.2]; exact hj
    rw [tiL_get h hj, tiL_get h' hj']
    rcases ie j hj with a | a <;> rcases if_ j hj' with b | b
    · rw [cmp_none a, cmp_none b, a, b]; simp
    · rw [cmp_none a, cmp_some b hj', a, b]; simp
    · rw [cmp_some a hj, cmp_none b, a, b]
      rw [if_neg (by omega)]; simp
    · rw [cmp_some a hj, cmp_some b hj', a, b]; simp
  refine ⟨h', ofL_ext (tiL_len h) ((tiL_len h').trans hp.2.2.symm) fun j hj => by rw [(key j hj).1, (key j hj).2], ofL_ext (tiL_len h) (meL_len h) fun j hj => by rw [(key j hj).1, meL_get h hj]⟩
theorem beB_trans {f g k : List Int} (h1 : beB f g = true) (h2 : beB g k = true) : beB f k = true := by
  have p := isP_yes (beB_isP h1)
  have q := isP_yes (beB_isP h2)
  have a := (beB_iff (beB_isP h1)).1 h1
  have b := (beB_iff (beB_isP h2)).1 h2
  refine (beB_iff (isP_of p.1 q.2.1 (p.2.2.trans q.2.2))).2 fun j hj => ?_
  rcases a j hj with e | e
  · exact .inl e
  · rcases b j (by rw [← p.2.2]; exact hj) with e' | e'
    · exact .inl (e.trans e')
    · exact .inr (e.trans e')
/-- something on top lies above each -/
theorem tops_law {zs : List (List Int)} (hS : sgS zs = true) : ∀ (k : Nat) (L : List Int), L ∈ zs → (zs.filter (beB L)).length ≤ k → ∃ T, T ∈ tpL zs ∧ beB L T = true := by
  have S := sgS_iff.1 hS
  intro k
  induction k with
  | zero =>
    intro L hL h
    have : L ∈ zs.filter (beB L) := List.mem_filter.2 ⟨hL, beB_refl (S.ch L hL).1⟩
    have := List.length_pos_of_mem this
    omega
  | succ k ih =>
    intro L hL h
    by_cases h1 : (zs.filter (beB L)).length = 1
    · exact ⟨L, by unfold tpL; rw [if_pos hS]; exact List.mem_filter.2 ⟨hL, decide_eq_true h1⟩, beB_refl (S.ch L hL).1⟩
    · have hself : L ∈ zs.filter (beB L) := List.mem_filter.2 ⟨hL, beB_refl (S.ch L hL).1⟩
      have hnd : (zs.filter (beB L)).Nodup := by
        have : zs.Nodup := by
          unfold List.Nodup
          rw [List.pairwise_iff_getElem]
          intro i j hi hj hij e
          have := S.srt i j hij hj
          unfold ent at this
          rw [List.getElem?_eq_getElem hi, List.getElem?_eq_getElem hj] at this
          simp only [Option.getD_some] at this
          rw [e, lexB_irrefl] at this; cases this
        exact this.filter _
      obtain ⟨M, hM, hne⟩ : ∃ M ∈ zs.filter (beB L), M ≠ L := by
        refine Classical.byContradiction fun hc => h1 ?_
        have hall : ∀ M ∈ zs.filter (beB L), M = L := fun M hM => Classical.byContradiction fun hn => hc ⟨M, hM, hn⟩
        have hsub : zs.filter (beB L) ⊆ [L] := fun M hM => by rw [hall M hM]; simp
        have h2 := hnd.length_le_of_subset hsub
        have h3 := List.length_pos_of_mem hself
        simp at h2; omega
      have hMz := List.mem_filter.1 hM
      have hlt : (zs.filter (beB M)).length < (zs.filter (beB L)).length := by
        have hnM : L ∉ zs.filter (beB M) := fun hc => hne (beB_anti (List.mem_filter.1 hc).2 hMz.2)
        have hsub : L :: zs.filter (beB M) ⊆ zs.filter (beB L) := fun K hK => by
          rcases List.mem_cons.1 hK with e | hK
          · rw [e]; exact hself
          · have := List.mem_filter.1 hK
            exact List.mem_filter.2 ⟨this.1, beB_trans hMz.2 this.2⟩
        have hndM : (L :: zs.filter (beB M)).Nodup := List.nodup_cons.2 ⟨hnM, by
          have : zs.Nodup := by
            unfold List.Nodup
            rw [List.pairwise_iff_getElem]
            intro i j hi hj hij e
            have := S.srt i j hij hj
            unfold ent at this
            rw [List.getElem?_eq_getElem hi, List.getElem?_eq_getElem hj] at this
            simp only [Option.getD_some] at this
            rw [e, lexB_irrefl] at this; cases this
          exact this.filter _⟩
        have := hndM.length_le_of_subset hsub
        simp at this; omega
      obtain ⟨T, hT, hb⟩ := ih M hMz.1 (by omega)
      exact ⟨T, hT, beB_trans hMz.2 hb⟩
/-- some of the first k -/
theorem any_step {zs : List (List Int)} {p : List Int → Bool} {k : Nat} (hk : k < zs.length) : (zs.take (k + 1)).any p = ((zs.take k).any p || p (ent zs k)) := by
  have e : ent zs k = zs[k] := by unfold ent; rw [List.getElem?_eq_getElem hk]; rfl
  rw [List.take_succ_eq_append_getElem hk, List.any_append, e]; simp
theorem any_all {zs : List (List Int)} {p : List Int → Bool} {k : Nat} (hk : zs.length ≤ k) (h : ∃ T, T ∈ zs ∧ p T = true) : (zs.take k).any p = true := by
  rw [List.take_of_length_le hk, List.any_eq_true]
  exact h
theorem sgU_iff {zs : List (List Int)} (h : sgU zs = true) : sgS zs = true ∧ ∀ e ∈ zs, idB e = true → ∀ c ∈ zs, beB e c = true → idB c = true := by
  unfold sgU at h
  rw [Bool.and_eq_true] at h
  refine ⟨h.1, fun e he hi c hc hb => ?_⟩
  have h1 := List.all_eq_true.1 h.2 e (List.mem_filter.2 ⟨he, hi⟩)
  exact List.all_eq_true.1 h1 c (List.mem_filter.2 ⟨hc, hb⟩)
/-- a turned chart, pointwise -/
theorem tu_some {f : List Int} (h : isC f = true) {i m : Nat} (hi : i < f.length) (hm : m < f.length) : ofL (tuL f) m = (i : Int) ↔ ofL f i = (m : Int) := by
  rw [tuL_get h hm]; exact trn_iff (isC_CH h) hi hm
theorem tu_none {f : List Int} (h : isC f = true) {m : Nat} (hm : m < f.length) : ofL (tuL f) m = -1 ↔ ∀ i, i < f.length → ofL f i ≠ (m : Int) := by
  rw [tuL_get h hm]; exact trn_none (isC_CH h) hm
/-- what has something below in common is compatible, where what lies above idempotents is one -/
theorem unitary_law {zs : List (List Int)} (S : Sg zs) (hU : ∀ e ∈ zs, idB e = true → ∀ c ∈ zs, beB e c = true → idB c = true) {a b c : List Int} (ha : a ∈ zs) (hb : b ∈ zs) (hc : c ∈ zs) (hca : beB c a = true) (hcb : beB c b = true) : coB a b = true := by
  have Ca := (S.ch a ha).1
  have Cb := (S.ch b hb).1
  have Cc := (S.ch c hc).1
  have lab : a.length = b.length := (S.ch a ha).2.trans (S.ch b hb).2.symm
  have lac : c.length = a.length := (S.ch c hc).2.trans (S.ch a ha).2.symm
  have ba := (beB_iff (beB_isP hca)).1 hca
  have bb := (beB_iff (beB_isP hcb)).1 hcb
  have p1 : isP a (tuL b) = true := isP_of Ca (tuL_isC Cb) (lab.trans (tuL_len Cb).symm)
  have p2 : isP (tuL a) b = true := isP_of (tuL_isC Ca) Cb ((tuL_len Ca).trans lab)
  have q1 : isP c (tuL c) = true := isP_tu Cc
  have q2 : isP (tuL c) c = true := isP_of (tuL_isC Cc) Cc (tuL_len Cc)
  have hx : tiL a (tuL b) ∈ zs := S.ti _ ha _ (S.tu _ hb)
  have hy : tiL (tuL a) b ∈ zs := S.ti _ (S.tu _ ha) _ hb
  have he1 : tiL c (tuL c) ∈ zs := S.ti _ hc _ (S.tu _ hc)
  have he2 : tiL (tuL c) c ∈ zs := S.ti _ (S.tu _ hc) _ hc
  have i1 : idB (tiL c (tuL c)) = true := (chart_law Cc).2.2.2
  have i2 : idB (tiL (tuL c) c) = true := by
    have := (chart_law (tuL_isC Cc)).2.2.2
    rwa [tuL_tuL Cc] at this
  have b1 : beB (tiL c (tuL c)) (tiL a (tuL b)) = true := by
    refine (beB_iff (isP_of (tiL_isC q1) (tiL_isC p1) (by rw [tiL_len q1, tiL_len p1]; exact lac))).2 fun j hj => ?_
    rw [tiL_len q1] at hj
    by_cases hn : ofL c j = -1
    · left; rw [tiL_get q1 hj, cmp_none hn]
    · obtain ⟨m, hm, hjm⟩ := pt_of Cc hj hn
      right
      have hja : ofL a j = (m : Int) := by rcases ba j hj with e | e; exact absurd e hn; rw [← e, hjm]
      have hjb : ofL b j = (m : Int) := by rcases bb j hj with e | e; exact absurd e hn; rw [← e, hjm]
      rw [tiL_get q1 hj, cmp_some hjm hm, (tu_some Cc hj hm).2 hjm, tiL_get p1 (by omega), cmp_some hja (by omega), (tu_some Cb (by omega) (by omega)).2 hjb]
  have b2 : beB (tiL (tuL c) c) (tiL (tuL a) b) = true := by
    refine (beB_iff (isP_of (tiL_isC q2) (tiL_isC p2) (by rw [tiL_len q2, tiL_len p2, tuL_len Cc, tuL_len Ca]; exact lac))).2 fun j hj => ?_
    rw [tiL_len q2, tuL_len Cc] at hj
    have hj1 : j < (tuL c).length := by rw [tuL_len Cc]; exact hj
    by_cases hn : ofL (tuL c) j = -1
    · left; rw [tiL_get q2 hj1, cmp_none hn]
    · obtain ⟨m, hm, hjm⟩ := pt_of (tuL_isC Cc) hj1 hn
      rw [tuL_len Cc] at hm
      right
      have hmj : ofL c m = (j : Int) := (tu_some Cc hm hj).1 hjm
      have hn' : ofL c m ≠ -1 := by omega
      have hma : ofL a m = (j : Int) := by rcases ba m hm with e | e; exact absurd e hn'; rw [← e, hmj]
      have hmb : ofL b m = (j : Int) := by rcases bb m hm with e | e; exact absurd e hn'; rw [← e, hmj]
      rw [tiL_get q2 hj1, cmp_some hjm (by rw [tuL_len Cc]; exact hm), hmj, tiL_get p2 (by rw [tuL_len Ca]; omega), cmp_some ((tu_some Ca (by omega) (by omega)).2 hma) (by rw [tuL_len Ca]; omega), hmb]
  have ix := (idB_iff (tiL_isC p1)).1 (hU _ he1 i1 _ hx b1)
  have iy := (idB_iff (tiL_isC p2)).1 (hU _ he2 i2 _ hy b2)
  rw [tiL_len p1] at ix
  rw [tiL_len p2, tuL_len Ca] at iy
  refine (coB_iff (isP_of Ca Cb lab)).2 ⟨fun i hi h1 h2 => ?_, fun i j hi hj h1 h2 => ?_⟩
  · obtain ⟨m, hm, him⟩ := pt_of Ca hi h1
    have := iy m hm
    have hmt : ofL (tuL a) m = (i : Int) := (tu_some Ca hi hm).2 him
    rw [tiL_get p2 (by rw [tuL_len Ca]; exact hm), cmp_some hmt (by rw [tuL_len Ca]; exact hi)] at this
    rcases this with e | e
    · exact absurd e h2
    · rw [him, e]
  · obtain ⟨m, hm, him⟩ := pt_of Ca hi h1
    have := ix i hi
    have hjb : ofL b j = (m : Int) := h2 ▸ him
    rw [tiL_get p1 hi, cmp_some him hm, (tu_some Cb (by omega) (by omega)).2 hjb] at this
    omega
/-- where all swap, domains are ranges -/
theorem swaps_law {zs : List (List Int)} (S : Sg zs) (hW : ∀ e ∈ zs, idB e = true → ∀ c ∈ zs, tiL e c = tiL c e) {a : List Int} (ha : a ∈ zs) : doN a = raN a := by
  have Ca := (S.ch a ha).1
  have p1 : isP a (tuL a) = true := isP_tu Ca
  have p2 : isP (tuL a) a = true := isP_of (tuL_isC Ca) Ca (tuL_len Ca)
  have he1 : tiL a (tuL a) ∈ zs := S.ti _ ha _ (S.tu _ ha)
  have he2 : tiL (tuL a) a ∈ zs := S.ti _ (S.tu _ ha) _ ha
  have i1 : idB (tiL a (tuL a)) = true := (chart_law Ca).2.2.2
  have i2 : idB (tiL (tuL a) a) = true := by
    have := (chart_law (tuL_isC Ca)).2.2.2
    rwa [tuL_tuL Ca] at this
  have e1 : tiL a (tiL a (tuL a)) = a := by rw [← hW _ he1 i1 a ha]; exact (chart_law Ca).2.2.1
  have hass := (tiL_assoc p1 p2).2.2
  have e2 : tiL (tiL (tuL a) a) a = a := by
    rw [hW _ he2 i2 a ha, ← hass]; exact (chart_law Ca).2.2.1
  have pe1 : isP a (tiL a (tuL a)) = true := isP_of Ca (tiL_isC p1) (tiL_len p1).symm
  have pe2 : isP (tiL (tuL a) a) a = true := isP_of (tiL_isC p2) Ca ((tiL_len p2).trans (tuL_len Ca))
  have le2 : (tiL (tuL a) a).length = a.length := (tiL_len p2).trans (tuL_len Ca)
  rw [raN_tu Ca]
  refine Nat.eq_of_testBit_eq fun j => ?_
  rw [doN_bit Ca, doN_bit (tuL_isC Ca), tuL_len Ca]
  by_cases hj : j < a.length
  · have key : ofL a j ≠ -1 ↔ ofL (tuL a) j ≠ -1 := by
      constructor
      · intro h hn
        have : ofL (tiL (tiL (tuL a) a) a) j = -1 := by
          rw [tiL_get pe2 (by rw [le2]; exact hj), cmp_none]
          rw [tiL_get p2 (by rw [tuL_len Ca]; exact hj), cmp_none hn]
        rw [e2] at this; exact h this
      · intro h hn
        obtain ⟨m, hm, hjm⟩ := pt_of (tuL_isC Ca) (by rw [tuL_len Ca]; exact hj) h
        rw [tuL_len Ca] at hm
        have hmj : ofL a m = (j : Int) := (tu_some Ca hm hj).1 hjm
        have : ofL (tiL a (tiL a (tuL a))) m = -1 := by
          rw [tiL_get pe1 hm, cmp_some hmj hj, tiL_get p1 hj, cmp_none hn]
        rw [e1] at this; omega
    rw [decide_eq_true hj, Bool.true_and, Bool.true_and]
    by_cases h : ofL a j = -1
    · rw [decide_eq_false (by simpa using h), decide_eq_false (by rw [← key]; simpa using h)]
    · rw [decide_eq_true h, decide_eq_true (key.1 h)]
  · rw [decide_eq_false hj]; rfl
end

end Go.Proofs.YtigapanfihpgaaaGreatDoor
