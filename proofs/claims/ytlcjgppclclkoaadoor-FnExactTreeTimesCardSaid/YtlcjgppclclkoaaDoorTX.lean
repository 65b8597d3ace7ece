/-
  Tq.
-/
import Derived.Test.YtlcjgppclclkoaaDoorTS
import Derived.Test.YtlcjgppclclkoaaDoorTW
namespace Go.Proofs.YtlcjgppclclkoaaDoor
set_option maxRecDepth 100000
set_option linter.unusedVariables false
set_option linter.unusedSimpArgs false
set_option linter.unusedSectionVars false

/-! When some texts are a tree: what the specification asks of each, one after another; no program. -/
section
open Go.RowKit Go.Lib Go.Sort

structure Tpr (ss : List ByteArray) (k : Nat) (S : List (List (Fin 4))) : Prop where
  tk : ss.take k = S.map strOf
  ord : Ord S
  rd : ∀ u ∈ S, Rdc u
  sh : ∀ u ∈ S, u.length ≤ 24
  cl : ∀ c u, c :: u ∈ S → strOf u ∈ ss
theorem Tpr.zero (ss : List ByteArray) : Tpr ss 0 [] := ⟨rfl, List.Pairwise.nil, by simp, by simp, by simp⟩
theorem ord_snoc {S : List (List (Fin 4))} {u : List (Fin 4)} (h : Ord S) (hl : ∀ v, S.getLast? = some v → ltW v u) : Ord (S ++ [u]) := by
  rcases List.eq_nil_or_concat S with e | ⟨T, v, e⟩
  · subst e; exact List.pairwise_singleton _ _
  · subst e
    rw [List.concat_eq_append] at *
    have hv := hl v (by simp)
    refine List.pairwise_append.2 ⟨h, List.pairwise_singleton _ _, fun a ha b hb => ?_⟩
    rw [List.mem_singleton.1 hb]
    rcases List.mem_append.1 ha with h' | h'
    · exact ltW_trans ((List.pairwise_append.1 h).2.2 a h' v (by simp)) hv
    · rw [List.mem_singleton.1 h']; exact hv
theorem Tpr.step {ss : List ByteArray} {k : Nat} {S : List (List (Fin 4))} {u : List (Fin 4)} (h : Tpr ss k S) (hs : ss[k]? = some (strOf u)) (hr : Rdc u) (hl : u.length ≤ 24) (hlast : ∀ v, S.getLast? = some v → ltW v u)
    (hcl : ∀ c u', u = c :: u' → strOf u' ∈ ss) : Tpr ss (k + 1) (S ++ [u]) := by
  refine ⟨by rw [List.take_add_one, hs, h.tk]; simp, ord_snoc h.ord hlast, fun x hx => ?_, fun x hx => ?_, fun c x hx => ?_⟩
  · rcases List.mem_append.1 hx with h' | h'
    · exact h.rd x h'
    · rw [List.mem_singleton.1 h']; exact hr
  · rcases List.mem_append.1 hx with h' | h'
    · exact h.sh x h'
    · rw [List.mem_singleton.1 h']; exact hl
  · rcases List.mem_append.1 hx with h' | h'
    · exact h.cl c x h'
    · exact hcl c x (List.mem_singleton.1 h').symm
theorem Tpr.last {ss : List ByteArray} {p : Nat} {S : List (List (Fin 4))} (h : Tpr ss (p + 1) S) (hp : p + 1 ≤ ss.length) : ∃ v, S.getLast? = some v ∧ ss[p]? = some (strOf v) := by
  have hl := congrArg List.length h.tk
  rw [List.length_take, List.length_map] at hl
  rcases List.eq_nil_or_concat S with e | ⟨T, v, e⟩
  · subst e; rw [List.length_nil] at hl; omega
  · subst e
    refine ⟨v, by simp, ?_⟩
    have h2 := h.tk
    have h3 := congrArg (fun l => l[p]?) h2
    simp only [List.concat_eq_append, List.map_append, List.map_cons, List.map_nil] at h3
    rw [List.getElem?_take_of_lt (by omega)] at h3
    rw [h3]
    have : (T.map strOf).length = p := by simp at hl ⊢; omega
    rw [List.getElem?_append_right (by omega), this]; simp
theorem Tpr.done {ss : List ByteArray} {S : List (List (Fin 4))} {e : ByteArray} (h : Tpr ss ss.length S) (he : e ∈ ss) (h1 : 1 ≤ ss.length) (h60 : ss.length ≤ 60) : TinQ ss e := by
  have hs : ss = S.map strOf := by have := h.tk; rwa [List.take_length] at this
  have hm : ∀ u, strOf u ∈ ss → u ∈ S := fun u hu => by
    rw [hs] at hu
    obtain ⟨v, hv, e⟩ := List.mem_map.1 hu
    rw [← strOf_inj e]; exact hv
  have hcl : ∀ c u, c :: u ∈ S → u ∈ S := fun c u hu => hm u (h.cl c u hu)
  have hn : ∀ u, u ∈ S → [] ∈ S := by
    intro u
    induction u with
    | nil => exact id
    | cons c u ih => exact fun hu => ih (hcl c u hu)
  have hne : S ≠ [] := fun e => by rw [hs, e] at h1; simp at h1
  obtain ⟨x, hx⟩ := List.exists_mem_of_ne_nil S hne
  obtain ⟨u, hu, rfl⟩ : ∃ u ∈ S, strOf u = e := by
    rw [hs] at he; exact List.mem_map.1 he
  exact ⟨S, u, hs, rfl, hu, h.ord, hn x hx, h.rd, hcl, by rw [hs, List.length_map] at h60; exact h60, h.sh⟩
section
variable {ss : List ByteArray} {e : ByteArray}
theorem no_len (h : ¬ (1 ≤ ss.length ∧ ss.length ≤ 60)) : ¬ TinQ ss e := by
  rintro ⟨S, u, rfl, _, hu, hT⟩
  rw [List.length_map] at h
  exact h ⟨List.length_pos_of_mem hu, hT.len⟩
theorem no_end (h : e ∉ ss) : ¬ TinQ ss e := by
  rintro ⟨S, u, rfl, rfl, hu, hT⟩
  exact h (List.mem_map.2 ⟨u, hu, rfl⟩)
theorem no_word {s : ByteArray} (hs : s ∈ ss) (h : wordB s = false) : ¬ TinQ ss e := by
  rintro ⟨S, u, rfl, _, hu, hT⟩
  obtain ⟨v, hv, rfl⟩ := List.mem_map.1 hs
  rw [strOf_word (hT.sh v hv)] at h; cases h
theorem no_red {ws : List (Fin 4)} (hs : txt ws ∈ ss) (h : redS ws ≠ ws.reverse) : ¬ TinQ ss e := by
  rintro ⟨S, u, rfl, _, hu, hT⟩
  obtain ⟨v, hv, e⟩ := List.mem_map.1 hs
  rw [strOf_txt] at e
  have := txt_inj e
  subst this
  exact h (by rw [List.reverse_reverse]; exact rdc_go (hT.rd v hv))
theorem no_ord {p : Nat} {u v : List (Fin 4)} (h1 : ss[p]? = some (strOf v)) (h2 : ss[p + 1]? = some (strOf u)) (h : ltOf leL v u = false) : ¬ TinQ ss e := by
  rintro ⟨S, x, rfl, _, hu, hT⟩
  rw [List.getElem?_map] at h1 h2
  obtain ⟨a, ha, e1⟩ := Option.map_eq_some_iff.1 h1
  obtain ⟨b, hb, e2⟩ := Option.map_eq_some_iff.1 h2
  have e1 := strOf_inj e1
  have e2 := strOf_inj e2
  subst e1 e2
  obtain ⟨i1, rfl⟩ := List.getElem?_eq_some_iff.1 ha
  obtain ⟨i2, rfl⟩ := List.getElem?_eq_some_iff.1 hb
  have := List.pairwise_iff_getElem.1 hT.ord p (p + 1) i1 i2 (by omega)
  rw [(ltOf_leL _ _).2 this] at h; cases h
theorem no_cl {c : Fin 4} {u : List (Fin 4)} (h1 : strOf (c :: u) ∈ ss) (h2 : strOf u ∉ ss) : ¬ TinQ ss e := by
  rintro ⟨S, x, rfl, _, hu, hT⟩
  obtain ⟨v, hv, e⟩ := List.mem_map.1 h1
  have e := strOf_inj e
  subst e
  exact h2 (List.mem_map.2 ⟨u, hT.cl c u hv, rfl⟩)
end
theorem strOf_cut (c : Fin 4) (u : List (Fin 4)) : (strOf (c :: u)).extract 0 u.length = strOf u := by
  apply ByteArray.ext
  apply Array.ext'
  rw [ByteArray.data_extract, Array.toList_extract, strOf_list, strOf_list]
  simp [List.extract]
end

end Go.Proofs.YtlcjgppclclkoaaDoor
