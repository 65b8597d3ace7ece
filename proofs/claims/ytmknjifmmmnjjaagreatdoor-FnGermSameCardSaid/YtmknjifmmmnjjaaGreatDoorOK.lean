/-
  OfM OfN.
-/
import Derived.Test.YtmknjifmmmnjjaaGreatDoorMC
import Derived.Test.YtmknjifmmmnjjaaGreatDoorME
import Derived.Test.YtmknjifmmmnjjaaGreatDoorND
import Derived.Test.YtmknjifmmmnjjaaGreatDoorNE
import Derived.Test.YtmknjifmmmnjjaaGreatDoorNG
namespace Go.Proofs.YtmknjifmmmnjjaaGreatDoor
set_option maxRecDepth 100000
set_option linter.unusedVariables false
set_option linter.unusedSimpArgs false
set_option linter.unusedSectionVars false

/-! The semigroup of some charts: what multiplying reaches; no program. -/
section
/-- the charts given and these turned -/
def facs (zs : List (List Int)) : List (List Int) := zs ++ zs.map tuL
/-- one factor more behind -/
def nxR (zs : List (List Int)) (L M : List Int) : Prop := ∃ d ∈ facs zs, M = tiL L d
/-- sorted, not too many, and all that is reached -/
structure Whole (zs out : List (List Int)) : Prop where
  srt : Srt out
  most : out.length ≤ 400
  from_ : ∀ P : List Int → Prop, (∀ L ∈ facs zs, P L) → (∀ L, P L → ∀ M, nxR zs L M → P M) → ∀ L ∈ out, P L
  st : ∀ L ∈ facs zs, L ∈ out
  cl : ∀ L ∈ out, ∀ M, nxR zs L M → M ∈ out
theorem srt_nodup {zs : List (List Int)} (h : Srt zs) : zs.Nodup := by
  unfold List.Nodup
  rw [List.pairwise_iff_getElem]
  intro i j hi hj hij e
  have := h i j hij hj
  unfold ent at this
  rw [List.getElem?_eq_getElem hi, List.getElem?_eq_getElem hj] at this
  simp only [Option.getD_some] at this
  rw [e, lexB_irrefl] at this; cases this
theorem srt_eq {a b : List (List Int)} (ha : Srt a) (hb : Srt b) (h : ∀ L, L ∈ a ↔ L ∈ b) : a = b := by
  have pw : ∀ {l : List (List Int)}, Srt l → l.Pairwise (fun a b => lexB a b = true) := fun {l} hl => by
    rw [List.pairwise_iff_getElem]
    intro i j hi hj hij
    have := hl i j hij hj
    unfold ent at this
    rw [List.getElem?_eq_getElem hi, List.getElem?_eq_getElem hj] at this
    exact this
  refine eq_of_srt ((List.perm_ext_iff_of_nodup (srt_nodup ha) (srt_nodup hb)).2 h) (fun a b _ _ h1 h2 => ?_) (pw ha) (pw hb)
  rw [lexB_asymm h1] at h2; cases h2
theorem Whole.uniq {zs a b : List (List Int)} (ha : Whole zs a) (hb : Whole zs b) : a = b :=
  srt_eq ha.srt hb.srt fun L => ⟨fun h => ha.from_ (fun L => L ∈ b) hb.st hb.cl L h, fun h => hb.from_ (fun L => L ∈ a) ha.st ha.cl L h⟩
/-- what both sides answer -/
def Ofs (zs OL : List (List Int)) (OB : Bool) : Prop := ((cfB zs 6 = true ∧ Whole zs OL) ∧ OB = true) ∨ ((¬ (cfB zs 6 = true ∧ ∃ out, Whole zs out)) ∧ OL = [] ∧ OB = false)
theorem ofs_ex (zs : List (List Int)) : ∃ OL OB, Ofs zs OL OB := by
  by_cases h : cfB zs 6 = true ∧ ∃ out, Whole zs out
  · obtain ⟨h1, out, hw⟩ := h
    exact ⟨out, true, .inl ⟨⟨h1, hw⟩, rfl⟩⟩
  · exact ⟨[], false, .inr ⟨h, rfl, rfl⟩⟩
theorem ofs_yes {zs OL out : List (List Int)} {OB : Bool} (hO : Ofs zs OL OB) (h : cfB zs 6 = true) (hw : Whole zs out) : OL = out ∧ OB = true := by
  rcases hO with ⟨h1, h2⟩ | ⟨h1, _⟩
  · exact ⟨Whole.uniq h1.2 hw, h2⟩
  · exact absurd ⟨h, out, hw⟩ h1
theorem ofs_no {zs OL : List (List Int)} {OB : Bool} (hO : Ofs zs OL OB) (h : ¬ (cfB zs 6 = true ∧ ∃ out, Whole zs out)) : OL = [] ∧ OB = false := by
  rcases hO with ⟨h1, _⟩ | ⟨_, h2⟩
  · exact absurd ⟨h1.1, OL, h1.2⟩ h
  · exact h2
/-- the lists of one semigroup are charts of as many points -/
theorem facs_ch {zs : List (List Int)} {m : Nat} (hz : ∀ L ∈ zs, isC L = true ∧ L.length = m) : ∀ L ∈ facs zs, isC L = true ∧ L.length = m := fun L hL => by
  rcases List.mem_append.1 hL with h | h
  · exact hz L h
  · obtain ⟨M, hM, rfl⟩ := List.mem_map.1 h
    exact ⟨tuL_isC (hz M hM).1, (tuL_len (hz M hM).1).trans (hz M hM).2⟩
theorem nxR_ch {zs : List (List Int)} {m : Nat} (hz : ∀ L ∈ zs, isC L = true ∧ L.length = m) : ∀ L, (isC L = true ∧ L.length = m) → ∀ M, nxR zs L M → isC M = true ∧ M.length = m := fun L hL M hM => by
  obtain ⟨d, hd, rfl⟩ := hM
  have hdz := facs_ch hz d hd
  have hp := isP_of hL.1 hdz.1 (hL.2.trans hdz.2.symm)
  exact ⟨tiL_isC hp, (tiL_len hp).trans hL.2⟩
theorem ofs_le {zs OL : List (List Int)} {OB : Bool} (hO : Ofs zs OL OB) : OL.length ≤ 400 ∧ totL OL ≤ 2400 ∧ ∀ L ∈ OL, L.length ≤ 1048576 := by
  rcases hO with ⟨⟨h1, hw⟩, _⟩ | ⟨_, rfl, _⟩
  · have hz : ∀ L ∈ zs, isC L = true ∧ L.length = (ent zs 0).length := by
      unfold cfB at h1
      rw [Bool.and_eq_true, chB_iff] at h1
      exact h1.1.2
    have hc := hw.from_ (fun L => isC L = true ∧ L.length = (ent zs 0).length) (facs_ch hz) (nxR_ch hz)
    have h6 : ∀ L ∈ OL, L.length ≤ 6 := fun L hL => (isC_len (hc L hL).1).2
    have hm := hw.most
    exact ⟨hm, Nat.le_trans (totL_bound hm h6) (by decide), fun L hL => by have := h6 L hL; omega⟩
  · exact ⟨by simp, by decide, fun L h => by cases h⟩
end

/-! The semigroup of some charts, as the specification reckons it: a list kept in order, and a queue; no program. -/
section
theorem srt_pw {zs : List (List Int)} : Srt zs ↔ zs.Pairwise (fun a b => lexB a b = true) := by
  rw [List.pairwise_iff_getElem]
  constructor
  · intro h i j hi hj hij
    have := h i j hij hj
    unfold ent at this
    rw [List.getElem?_eq_getElem hi, List.getElem?_eq_getElem hj] at this
    simpa using this
  · intro h i j hij hj
    have := h i j (by omega) hj hij
    unfold ent
    rw [List.getElem?_eq_getElem (show i < zs.length by omega), List.getElem?_eq_getElem hj]
    simpa using this
theorem srt_nil : Srt [] := fun i j _ h => by simp at h
/-- put in at place k -/
def insAt (zs : List (List Int)) (k : Nat) (L : List Int) : List (List Int) := (zs.take k ++ [L]) ++ zs.drop k
theorem insAt_len {zs : List (List Int)} {k : Nat} {L : List Int} (hk : k ≤ zs.length) : (insAt zs k L).length = zs.length + 1 := by unfold insAt; simp; omega
theorem insAt_mem {zs : List (List Int)} {k : Nat} {L M : List Int} : M ∈ insAt zs k L ↔ M = L ∨ M ∈ zs := by
  unfold insAt
  rw [List.mem_append, List.mem_append, List.mem_singleton]
  have : M ∈ zs ↔ M ∈ zs.take k ∨ M ∈ zs.drop k := by rw [← List.mem_append, List.take_append_drop]
  rw [this]
  constructor
  · rintro ((h | h) | h)
    · exact .inr (.inl h)
    · exact .inl h
    · exact .inr (.inr h)
  · rintro (h | h | h)
    · exact .inl (.inr h)
    · exact .inl (.inl h)
    · exact .inr h
/-- what lies behind is greater, what lies just ahead is not: then all stays in order -/
theorem srt_ins {zs : List (List Int)} {k : Nat} {L : List Int} (hs : Srt zs) (hn : L ∉ zs) (hb : ∀ M ∈ zs.drop k, lexB L M = true) (ha : k ≠ 0 → lexB L (ent zs (k - 1)) = false) (hk : k ≤ zs.length) : Srt (insAt zs k L) := by
  have hlt : ∀ M ∈ zs.take k, lexB M L = true := fun M hM => by
    obtain ⟨i, hi, rfl⟩ := List.mem_take_iff_getElem.1 hM
    have hk0 : k ≠ 0 := by omega
    have hlast : lexB (ent zs (k - 1)) L = true := by
      cases h : lexB (ent zs (k - 1)) L
      · exact absurd (by rw [lexB_total (ha hk0) h]; exact ent_mem (by omega)) hn
      · rfl
    have he : zs[i] = ent zs i := by unfold ent; rw [List.getElem?_eq_getElem (by omega)]; rfl
    rw [he]
    by_cases e : i = k - 1
    · rw [e]; exact hlast
    · exact lexB_trans (hs i (k - 1) (by omega) (by omega)) hlast
  rw [srt_pw] at hs ⊢
  rw [← List.take_append_drop k zs, List.pairwise_append] at hs
  unfold insAt
  rw [List.pairwise_append, List.pairwise_append]
  refine ⟨⟨hs.1, List.pairwise_singleton _ _, fun a h b h' => by rw [List.mem_singleton.1 h']; exact hlt a h⟩, hs.2.1, fun a h b h' => ?_⟩
  rcases List.mem_append.1 h with h | h
  · exact hs.2.2 a h b h'
  · rw [List.mem_singleton.1 h]; exact hb b h'
theorem drop_step {zs : List (List Int)} {k : Nat} {L : List Int} (hk : k < zs.length) (h : lexB L (ent zs k) = true) (hb : ∀ M ∈ zs.drop (k + 1), lexB L M = true) : ∀ M ∈ zs.drop k, lexB L M = true := fun M hM => by
  rw [List.drop_eq_getElem_cons hk] at hM
  rcases List.mem_cons.1 hM with e | hM
  · have he : zs[k] = ent zs k := by unfold ent; rw [List.getElem?_eq_getElem hk]; rfl
    rw [e, he]; exact h
  · exact hb M hM

/-- the factors, each chart ahead of itself turned -/
def byL (zs : List (List Int)) : List (List Int) := zs.flatMap (fun L => [L, tuL L])
theorem byL_snoc (zs : List (List Int)) (L : List Int) : byL (zs ++ [L]) = byL zs ++ [L, tuL L] := by unfold byL; rw [List.flatMap_append]; simp
theorem byL_take {zs : List (List Int)} {k : Nat} {L : List Int} (h : zs[k]? = some L) : byL (zs.take (k + 1)) = byL (zs.take k) ++ [L, tuL L] := by
  rw [List.take_add_one, h]; exact byL_snoc _ _
theorem byL_len : ∀ zs : List (List Int), (byL zs).length = 2 * zs.length
  | [] => rfl
  | L :: zs => by
    have := byL_len zs
    unfold byL at this ⊢
    rw [List.flatMap_cons, List.length_append, this]
    simp; omega
theorem byL_mem {zs : List (List Int)} {M : List Int} : M ∈ byL zs ↔ M ∈ facs zs := by
  unfold byL facs
  rw [List.mem_flatMap, List.mem_append, List.mem_map]
  constructor
  · rintro ⟨L, hL, h⟩
    rcases List.mem_cons.1 h with h | h
    · exact .inl (h ▸ hL)
    · exact .inr ⟨L, hL, (List.mem_singleton.1 h).symm⟩
  · rintro (h | ⟨L, hL, h⟩)
    · exact ⟨M, h, by simp⟩
    · exact ⟨L, hL, by simp [h]⟩
/-- the products of one chart with the first factors -/
def proT (zs : List (List Int)) (f : List Int) (k : Nat) : List (List Int) := ((byL zs).take k).map (tiL f)
theorem proT_succ {zs : List (List Int)} {f M : List Int} {k : Nat} (h : (byL zs)[k]? = some M) : proT zs f (k + 1) = proT zs f k ++ [tiL f M] := by
  unfold proT; rw [List.take_add_one, h, List.map_append]; rfl
theorem proT_len {zs : List (List Int)} {f : List Int} {k : Nat} : (proT zs f k).length ≤ k := by unfold proT; rw [List.length_map, List.length_take]; omega
theorem proT_all {zs : List (List Int)} {f M : List Int} {k : Nat} (hk : (byL zs).length ≤ k) : M ∈ proT zs f k ↔ nxR zs f M := by
  unfold proT nxR
  rw [List.take_of_length_le hk, List.mem_map]
  constructor
  · rintro ⟨d, hd, rfl⟩; exact ⟨d, byL_mem.1 hd, rfl⟩
  · rintro ⟨d, hd, rfl⟩; exact ⟨d, byL_mem.2 hd, rfl⟩

/-- what holds at each round: out is in order, all of out and queue is reached, and what comes of out lies in one of both -/
structure Bfs (zs out q : List (List Int)) : Prop where
  srt : Srt out
  from_ : ∀ P : List Int → Prop, (∀ L ∈ facs zs, P L) → (∀ L, P L → ∀ M, nxR zs L M → P M) → ∀ L, L ∈ out ∨ L ∈ q → P L
  st : ∀ L ∈ facs zs, L ∈ out ∨ L ∈ q
  cl : ∀ L ∈ out, ∀ M, nxR zs L M → M ∈ out ∨ M ∈ q
theorem bfs_start (zs : List (List Int)) : Bfs zs [] (byL zs) :=
  ⟨srt_nil, fun P h _ L hL => by
    rcases hL with h' | h'
    · cases h'
    · exact h L (byL_mem.1 h'), fun L hL => .inr (byL_mem.2 hL), fun L hL => by cases hL⟩
theorem bfs_skip {zs out q : List (List Int)} {f : List Int} (h : Bfs zs out (f :: q)) (hf : f ∈ out) : Bfs zs out q :=
  ⟨h.srt, fun P h1 h2 L hL => h.from_ P h1 h2 L (hL.imp id (List.mem_cons_of_mem f)), fun L hL => by
    rcases h.st L hL with h' | h'
    · exact .inl h'
    · rcases List.mem_cons.1 h' with e | h'
      · exact .inl (e ▸ hf)
      · exact .inr h', fun L hL M hM => by
    rcases h.cl L hL M hM with h' | h'
    · exact .inl h'
    · rcases List.mem_cons.1 h' with e | h'
      · exact .inl (e ▸ hf)
      · exact .inr h'⟩
theorem bfs_put {zs out out' q : List (List Int)} {f : List Int} (h : Bfs zs out (f :: q)) (hs : Srt out') (hm : ∀ L, L ∈ out' ↔ L = f ∨ L ∈ out) {k : Nat} (hk : (byL zs).length ≤ k) : Bfs zs out' (q ++ proT zs f k) := by
  refine ⟨hs, fun P h1 h2 L hL => ?_, fun L hL => ?_, fun L hL M hM => ?_⟩
  · have hf := h.from_ P h1 h2 f (.inr (by simp))
    rcases hL with h' | h'
    · rcases (hm L).1 h' with e | h'
      · rw [e]; exact hf
      · exact h.from_ P h1 h2 L (.inl h')
    · rcases List.mem_append.1 h' with h' | h'
      · exact h.from_ P h1 h2 L (.inr (List.mem_cons_of_mem f h'))
      · exact h2 f hf L ((proT_all hk).1 h')
  · rcases h.st L hL with h' | h'
    · exact .inl ((hm L).2 (.inr h'))
    · rcases List.mem_cons.1 h' with e | h'
      · exact .inl ((hm L).2 (.inl e))
      · exact .inr (List.mem_append_left _ h')
  · rcases (hm L).1 hL with e | hL
    · rw [e] at hM
      exact .inr (List.mem_append_right _ ((proT_all hk).2 hM))
    · rcases h.cl L hL M hM with h' | h'
      · exact .inl ((hm M).2 (.inr h'))
      · rcases List.mem_cons.1 h' with e | h'
        · exact .inl ((hm M).2 (.inl e))
        · exact .inr (List.mem_append_left _ h')
theorem bfs_end {zs out : List (List Int)} (h : Bfs zs out []) (h4 : out.length ≤ 400) : Whole zs out :=
  ⟨h.srt, h4, fun P h1 h2 L hL => h.from_ P h1 h2 L (.inl hL), fun L hL => (h.st L hL).resolve_right (by simp), fun L hL M hM => (h.cl L hL M hM).resolve_right (by simp)⟩
theorem bfs_many {zs out q : List (List Int)} (h : Bfs zs out q) (hm : ∀ L ∈ out, L ∈ out) (h4 : 400 < out.length) : ¬ ∃ o, Whole zs o := by
  rintro ⟨o, hw⟩
  have hsub : out ⊆ o := fun L hL => h.from_ (fun L => L ∈ o) hw.st hw.cl L (.inl hL)
  have := (srt_nodup h.srt).length_le_of_subset hsub
  have := hw.most
  omega
/-- one too many: put in, and there is no whole -/
theorem bfs_over {zs out out' q : List (List Int)} {f : List Int} (h : Bfs zs out (f :: q)) (hs : Srt out') (hm : ∀ L, L ∈ out' ↔ L = f ∨ L ∈ out) (h4 : 400 < out'.length) : ¬ ∃ o, Whole zs o :=
  bfs_many (bfs_put h hs hm (Nat.le_refl _)) (fun _ h => h) h4
theorem bfs_ch {zs out q : List (List Int)} {m : Nat} (h : Bfs zs out q) (hz : ∀ L ∈ zs, isC L = true ∧ L.length = m) : ∀ L, L ∈ out ∨ L ∈ q → isC L = true ∧ L.length = m :=
  h.from_ (fun L => isC L = true ∧ L.length = m) (facs_ch hz) (nxR_ch hz)
end

end Go.Proofs.YtmknjifmmmnjjaaGreatDoor
