/-
  OfM OfN OfQ OfP OfS.
-/
import Derived.ArgAppend
import Derived.Maps.AppendAt
import Derived.Deep.MidRow
import Derived.Deep.RegionLaw
import Derived.Test.YtkfiehndlgplgaaGreatDoorMC
import Derived.Test.YtkfiehndlgplgaaGreatDoorME
import Derived.Test.YtkfiehndlgplgaaGreatDoorND
import Derived.Test.YtkfiehndlgplgaaGreatDoorVA
namespace Go.Proofs.YtkfiehndlgplgaaGreatDoor
set_option maxRecDepth 100000
set_option linter.unusedVariables false
set_option linter.unusedSimpArgs false
set_option linter.unusedSectionVars false

/-! The semigroup of some charts: what multiplying reaches; no program. -/
section
/-- the charts given and these turned -/
def facs (zs : List (List Int)) : List (List Int) := zs ++ zs.map tuL
/-- one factor more behind -/
def nxR (zs : List (List Int)) (L M : List Int) : Prop := ∃ d ∈ facs zs, M = tiL L d
/-- sorted, not too many, and all that is reached -/
structure Whole (zs out : List (List Int)) : Prop where
  srt : Srt out
  most : out.length ≤ 400
  from_ : ∀ P : List Int → Prop, (∀ L ∈ facs zs, P L) → (∀ L, P L → ∀ M, nxR zs L M → P M) → ∀ L ∈ out, P L
  st : ∀ L ∈ facs zs, L ∈ out
  cl : ∀ L ∈ out, ∀ M, nxR zs L M → M ∈ out
theorem srt_nodup {zs : List (List Int)} (h : Srt zs) : zs.Nodup := by
  unfold List.Nodup
  rw [List.pairwise_iff_getElem]
  intro i j hi hj hij e
  have := h i j hij hj
  unfold ent at this
  rw [List.getElem?_eq_getElem hi, List.getElem?_eq_getElem hj] at this
  simp only [Option.getD_some] at this
  rw [e, lexB_irrefl] at this; cases this
theorem srt_eq {a b : List (List Int)} (ha : Srt a) (hb : Srt b) (h : ∀ L, L ∈ a ↔ L ∈ b) : a = b := by
  have pw : ∀ {l : List (List Int)}, Srt l → l.Pairwise (fun a b => lexB a b = true) := fun {l} hl => by
    rw [List.pairwise_iff_getElem]
    intro i j hi hj hij
    have := hl i j hij hj
    unfold ent at this
    rw [List.getElem?_eq_getElem hi, List.getElem?_eq_getElem hj] at this
    exact this
  refine eq_of_srt ((List.perm_ext_iff_of_nodup (srt_nodup ha) (srt_nodup hb)).2 h) (fun a b _ _ h1 h2 => ?_) (pw ha) (pw hb)
  rw [lexB_asymm h1] at h2; cases h2
theorem Whole.uniq {zs a b : List (List Int)} (ha : Whole zs a) (hb : Whole zs b) : a = b :=
  srt_eq ha.srt hb.srt fun L => ⟨fun h => ha.from_ (fun L => L ∈ b) hb.st hb.cl L h, fun h => hb.from_ (fun L => L ∈ a) ha.st ha.cl L h⟩
/-- what both sides answer -/
def Ofs (zs OL : List (List Int)) (OB : Bool) : Prop := ((cfB zs 6 = true ∧ Whole zs OL) ∧ OB = true) ∨ ((¬ (cfB zs 6 = true ∧ ∃ out, Whole zs out)) ∧ OL = [] ∧ OB = false)
theorem ofs_ex (zs : List (List Int)) : ∃ OL OB, Ofs zs OL OB := by
  by_cases h : cfB zs 6 = true ∧ ∃ out, Whole zs out
  · obtain ⟨h1, out, hw⟩ := h
    exact ⟨out, true, .inl ⟨⟨h1, hw⟩, rfl⟩⟩
  · exact ⟨[], false, .inr ⟨h, rfl, rfl⟩⟩
theorem ofs_yes {zs OL out : List (List Int)} {OB : Bool} (hO : Ofs zs OL OB) (h : cfB zs 6 = true) (hw : Whole zs out) : OL = out ∧ OB = true := by
  rcases hO with ⟨h1, h2⟩ | ⟨h1, _⟩
  · exact ⟨Whole.uniq h1.2 hw, h2⟩
  · exact absurd ⟨h, out, hw⟩ h1
theorem ofs_no {zs OL : List (List Int)} {OB : Bool} (hO : Ofs zs OL OB) (h : ¬ (cfB zs 6 = true ∧ ∃ out, Whole zs out)) : OL = [] ∧ OB = false := by
  rcases hO with ⟨h1, _⟩ | ⟨_, h2⟩
  · exact absurd ⟨h1.1, OL, h1.2⟩ h
  · exact h2
/-- the lists of one semigroup are charts of as many points -/
theorem facs_ch {zs : List (List Int)} {m : Nat} (hz : ∀ L ∈ zs, isC L = true ∧ L.length = m) : ∀ L ∈ facs zs, isC L = true ∧ L.length = m := fun L hL => by
  rcases List.mem_append.1 hL with h | h
  · exact hz L h
  · obtain ⟨M, hM, rfl⟩ := List.mem_map.1 h
    exact ⟨tuL_isC (hz M hM).1, (tuL_len (hz M hM).1).trans (hz M hM).2⟩
theorem nxR_ch {zs : List (List Int)} {m : Nat} (hz : ∀ L ∈ zs, isC L = true ∧ L.length = m) : ∀ L, (isC L = true ∧ L.length = m) → ∀ M, nxR zs L M → isC M = true ∧ M.length = m := fun L hL M hM => by
  obtain ⟨d, hd, rfl⟩ := hM
  have hdz := facs_ch hz d hd
  have hp := isP_of hL.1 hdz.1 (hL.2.trans hdz.2.symm)
  exact ⟨tiL_isC hp, (tiL_len hp).trans hL.2⟩
theorem ofs_le {zs OL : List (List Int)} {OB : Bool} (hO : Ofs zs OL OB) : OL.length ≤ 400 ∧ totL OL ≤ 2400 ∧ ∀ L ∈ OL, L.length ≤ 1048576 := by
  rcases hO with ⟨⟨h1, hw⟩, _⟩ | ⟨_, rfl, _⟩
  · have hz : ∀ L ∈ zs, isC L = true ∧ L.length = (ent zs 0).length := by
      unfold cfB at h1
      rw [Bool.and_eq_true, chB_iff] at h1
      exact h1.1.2
    have hc := hw.from_ (fun L => isC L = true ∧ L.length = (ent zs 0).length) (facs_ch hz) (nxR_ch hz)
    have h6 : ∀ L ∈ OL, L.length ≤ 6 := fun L hL => (isC_len (hc L hL).1).2
    have hm := hw.most
    exact ⟨hm, Nat.le_trans (totL_bound hm h6) (by decide), fun L hL => by have := h6 L hL; omega⟩
  · exact ⟨by simp, by decide, fun L h => by cases h⟩
end

/-! The semigroup of some charts, as the specification reckons it: a list kept in order, and a queue; no program. -/
section
theorem srt_pw {zs : List (List Int)} : Srt zs ↔ zs.Pairwise (fun a b => lexB a b = true) := by
  rw [List.pairwise_iff_getElem]
  constructor
  · intro h i j hi hj hij
    have := h i j hij hj
    unfold ent at this
    rw [List.getElem?_eq_getElem hi, List.getElem?_eq_getElem hj] at this
    simpa using this
  · intro h i j hij hj
    have := h i j (by omega) hj hij
    unfold ent
    rw [List.getElem?_eq_getElem (show i < zs.length by omega), List.getElem?_eq_getElem hj]
    simpa using this
theorem srt_nil : Srt [] := fun i j _ h => by simp at h
/-- put in at place k -/
def insAt (zs : List (List Int)) (k : Nat) (L : List Int) : List (List Int) := (zs.take k ++ [L]) ++ zs.drop k
theorem insAt_len {zs : List (List Int)} {k : Nat} {L : List Int} (hk : k ≤ zs.length) : (insAt zs k L).length = zs.length + 1 := by unfold insAt; simp; omega
theorem insAt_mem {zs : List (List Int)} {k : Nat} {L M : List Int} : M ∈ insAt zs k L ↔ M = L ∨ M ∈ zs := by
  unfold insAt
  rw [List.mem_append, List.mem_append, List.mem_singleton]
  have : M ∈ zs ↔ M ∈ zs.take k ∨ M ∈ zs.drop k := by rw [← List.mem_append, List.take_append_drop]
  rw [this]
  constructor
  · rintro ((h | h) | h)
    · exact .inr (.inl h)
    · exact .inl h
    · exact .inr (.inr h)
  · rintro (h | h | h)
    · exact .inl (.inr h)
    · exact .inl (.inl h)
    · exact .inr h
/-- what lies behind is greater, what lies just ahead is not: then all stays in order -/
theorem srt_ins {zs : List (List Int)} {k : Nat} {L : List Int} (hs : Srt zs) (hn : L ∉ zs) (hb : ∀ M ∈ zs.drop k, lexB L M = true) (ha : k ≠ 0 → lexB L (ent zs (k - 1)) = false) (hk : k ≤ zs.length) : Srt (insAt zs k L) := by
  have hlt : ∀ M ∈ zs.take k, lexB M L = true := fun M hM => by
    obtain ⟨i, hi, rfl⟩ := List.mem_take_iff_getElem.1 hM
    have hk0 : k ≠ 0 := by omega
    have hlast : lexB (ent zs (k - 1)) L = true := by
      cases h : lexB (ent zs (k - 1)) L
      · exact absurd (by rw [lexB_total (ha hk0) h]; exact ent_mem (by omega)) hn
      · rfl
    have he : zs[i] = ent zs i := by unfold ent; rw [List.getElem?_eq_getElem (by omega)]; rfl
    rw [he]
    by_cases e : i = k - 1
    · rw [e]; exact hlast
    · exact lexB_trans (hs i (k - 1) (by omega) (by omega)) hlast
  rw [srt_pw] at hs ⊢
  rw [← List.take_append_drop k zs, List.pairwise_append] at hs
  unfold insAt
  rw [List.pairwise_append, List.pairwise_append]
  refine ⟨⟨hs.1, List.pairwise_singleton _ _, fun a h b h' => by rw [List.mem_singleton.1 h']; exact hlt a h⟩, hs.2.1, fun a h b h' => ?_⟩
  rcases List.mem_append.1 h with h | h
  · exact hs.2.2 a h b h'
  · rw [List.mem_singleton.1 h]; exact hb b h'
theorem drop_step {zs : List (List Int)} {k : Nat} {L : List Int} (hk : k < zs.length) (h : lexB L (ent zs k) = true) (hb : ∀ M ∈ zs.drop (k + 1), lexB L M = true) : ∀ M ∈ zs.drop k, lexB L M = true := fun M hM => by
  rw [List.drop_eq_getElem_cons hk] at hM
  rcases List.mem_cons.1 hM with e | hM
  · have he : zs[k] = ent zs k := by unfold ent; rw [List.getElem?_eq_getElem hk]; rfl
    rw [e, he]; exact h
  · exact hb M hM

/-- the factors, each chart ahead of itself turned -/
def byL (zs : List (List Int)) : List (List Int) := zs.flatMap (fun L => [L, tuL L])
theorem byL_snoc (zs : List (List Int)) (L : List Int) : byL (zs ++ [L]) = byL zs ++ [L, tuL L] := by unfold byL; rw [List.flatMap_append]; simp
theorem byL_take {zs : List (List Int)} {k : Nat} {L : List Int} (h : zs[k]? = some L) : byL (zs.take (k + 1)) = byL (zs.take k) ++ [L, tuL L] := by
  rw [List.take_add_one, h]; exact byL_snoc _ _
theorem byL_len : ∀ zs : List (List Int), (byL zs).length = 2 * zs.length
  | [] => rfl
  | L :: zs => by
    have := byL_len zs
    unfold byL at this ⊢
    rw [List.flatMap_cons, List.length_append, this]
    simp; omega
theorem byL_mem {zs : List (List Int)} {M : List Int} : M ∈ byL zs ↔ M ∈ facs zs := by
  unfold byL facs
  rw [List.mem_flatMap, List.mem_append, List.mem_map]
  constructor
  · rintro ⟨L, hL, h⟩
    rcases List.mem_cons.1 h with h | h
    · exact .inl (h ▸ hL)
    · exact .inr ⟨L, hL, (List.mem_singleton.1 h).symm⟩
  · rintro (h | ⟨L, hL, h⟩)
    · exact ⟨M, h, by simp⟩
    · exact ⟨L, hL, by simp [h]⟩
/-- the products of one chart with the first factors -/
def proT (zs : List (List Int)) (f : List Int) (k : Nat) : List (List Int) := ((byL zs).take k).map (tiL f)
theorem proT_succ {zs : List (List Int)} {f M : List Int} {k : Nat} (h : (byL zs)[k]? = some M) : proT zs f (k + 1) = proT zs f k ++ [tiL f M] := by
  unfold proT; rw [List.take_add_one, h, List.map_append]; rfl
theorem proT_len {zs : List (List Int)} {f : List Int} {k : Nat} : (proT zs f k).length ≤ k := by unfold proT; rw [List.length_map, List.length_take]; omega
theorem proT_all {zs : List (List Int)} {f M : List Int} {k : Nat} (hk : (byL zs).length ≤ k) : M ∈ proT zs f k ↔ nxR zs f M := by
  unfold proT nxR
  rw [List.take_of_length_le hk, List.mem_map]
  constructor
  · rintro ⟨d, hd, rfl⟩; exact ⟨d, byL_mem.1 hd, rfl⟩
  · rintro ⟨d, hd, rfl⟩; exact ⟨d, byL_mem.2 hd, rfl⟩

/-- what holds at each round: out is in order, all of out and queue is reached, and what comes of out lies in one of both -/
structure Bfs (zs out q : List (List Int)) : Prop where
  srt : Srt out
  from_ : ∀ P : List Int → Prop, (∀ L ∈ facs zs, P L) → (∀ L, P L → ∀ M, nxR zs L M → P M) → ∀ L, L ∈ out ∨ L ∈ q → P L
  st : ∀ L ∈ facs zs, L ∈ out ∨ L ∈ q
  cl : ∀ L ∈ out, ∀ M, nxR zs L M → M ∈ out ∨ M ∈ q
theorem bfs_start (zs : List (List Int)) : Bfs zs [] (byL zs) :=
  ⟨srt_nil, fun P h _ L hL => by
    rcases hL with h' | h'
    · cases h'
    · exact h L (byL_mem.1 h'), fun L hL => .inr (byL_mem.2 hL), fun L hL => by cases hL⟩
theorem bfs_skip {zs out q : List (List Int)} {f : List Int} (h : Bfs zs out (f :: q)) (hf : f ∈ out) : Bfs zs out q :=
  ⟨h.srt, fun P h1 h2 L hL => h.from_ P h1 h2 L (hL.imp id (List.mem_cons_of_mem f)), fun L hL => by
    rcases h.st L hL with h' | h'
    · exact .inl h'
    · rcases List.mem_cons.1 h' with e | h'
      · exact .inl (e ▸ hf)
      · exact .inr h', fun L hL M hM => by
    rcases h.cl L hL M hM with h' | h'
    · exact .inl h'
    · rcases List.mem_cons.1 h' with e | h'
      · exact .inl (e ▸ hf)
      · exact .inr h'⟩
theorem bfs_put {zs out out' q : List (List Int)} {f : List Int} (h : Bfs zs out (f :: q)) (hs : Srt out') (hm : ∀ L, L ∈ out' ↔ L = f ∨ L ∈ out) {k : Nat} (hk : (byL zs).length ≤ k) : Bfs zs out' (q ++ proT zs f k) := by
  refine ⟨hs, fun P h1 h2 L hL => ?_, fun L hL => ?_, fun L hL M hM => ?_⟩
  · have hf := h.from_ P h1 h2 f (.inr (by simp))
    rcases hL with h' | h'
    · rcases (hm L).1 h' with e | h'
      · rw [e]; exact hf
      · exact h.from_ P h1 h2 L (.inl h')
    · rcases List.mem_append.1 h' with h' | h'
      · exact h.from_ P h1 h2 L (.inr (List.mem_cons_of_mem f h'))
      · exact h2 f hf L ((proT_all hk).1 h')
  · rcases h.st L hL with h' | h'
    · exact .inl ((hm L).2 (.inr h'))
    · rcases List.mem_cons.1 h' with e | h'
      · exact .inl ((hm L).2 (.inl e))
      · exact .inr (List.mem_append_left _ h')
  · rcases (hm L).1 hL with e | hL
    · rw [e] at hM
      exact .inr (List.mem_append_right _ ((proT_all hk).2 hM))
    · rcases h.cl L hL M hM with h' | h'
      · exact .inl ((hm M).2 (.inr h'))
      · rcases List.mem_cons.1 h' with e | h'
        · exact .inl ((hm M).2 (.inl e))
        · exact .inr (List.mem_append_left _ h')
theorem bfs_end {zs out : List (List Int)} (h : Bfs zs out []) (h4 : out.length ≤ 400) : Whole zs out :=
  ⟨h.srt, h4, fun P h1 h2 L hL => h.from_ P h1 h2 L (.inl hL), fun L hL => (h.st L hL).resolve_right (by simp), fun L hL M hM => (h.cl L hL M hM).resolve_right (by simp)⟩
theorem bfs_many {zs out q : List (List Int)} (h : Bfs zs out q) (hm : ∀ L ∈ out, L ∈ out) (h4 : 400 < out.length) : ¬ ∃ o, Whole zs o := by
  rintro ⟨o, hw⟩
  have hsub : out ⊆ o := fun L hL => h.from_ (fun L => L ∈ o) hw.st hw.cl L (.inl hL)
  have := (srt_nodup h.srt).length_le_of_subset hsub
  have := hw.most
  omega
/-- one too many: put in, and there is no whole -/
theorem bfs_over {zs out out' q : List (List Int)} {f : List Int} (h : Bfs zs out (f :: q)) (hs : Srt out') (hm : ∀ L, L ∈ out' ↔ L = f ∨ L ∈ out) (h4 : 400 < out'.length) : ¬ ∃ o, Whole zs o :=
  bfs_many (bfs_put h hs hm (Nat.le_refl _)) (fun _ h => h) h4
theorem bfs_ch {zs out q : List (List Int)} {m : Nat} (h : Bfs zs out q) (hz : ∀ L ∈ zs, isC L = true ∧ L.length = m) : ∀ L, L ∈ out ∨ L ∈ q → isC L = true ∧ L.length = m :=
  h.from_ (fun L => isC L = true ∧ L.length = m) (facs_ch hz) (nxR_ch hz)
end

/-! A queue of lists: a slice of slices with an offset, in a block of the call's own; append onto it; its rows, read alone. -/
section
open Go.RowKit

theorem step_app_at {P : Program} (w : World) {ops : Array Oper} {o : Oper} {a : Act} {K : Act → World → Prop} {Q : Exit → Act → World → Prop} {E : Prop}
    (hg : o.guard = none) (s x : Operand) (t : TypeId) (hop : o.op = Op.call { callee := Callee.builtin Builtin.append, args := #[s, x], argTypes := #[t, t] })
    (base : Nat) (e : TypeId) (i : TypeInfo) (z : Value) (size bytes : Nat) (h1 : P.underlying t = some (.slice e)) (h2 : P.info? e = some i) (h3 : i.zero = some z) (h4 : i.size = size) (h5 : i.bytes = bytes) (h6 : z.cells.size = size) (h7 : 0 < size)
    (v : Value) (k : Nat) (xs : List Value) (hs : a.eval s = v) (hown : w.ownsRow base e size v k xs) (ad : Addr) (m c : Nat) (news : List Value) (hx : a.eval x = .slice (some ad) m c) (hn : news.length = m * size)
    (hc : ∀ j u, news[j]? = some u → w.cell? (ad.add j) = some u) (h1c : ∀ u ∈ news, u.oneCell' = true) (b1 : k + m ≤ maxLen) (b2 : (k + m) * bytes ≤ 140737488355328) (b3 : base ≤ w.heap.size)
    (hK : ∀ v' w', w'.ownsRow base e size v' (k + m) (xs ++ news) → w.grownBy w' v.ownBlock → (v' = .slice none 0 0 ↔ v = .slice none 0 0 ∧ m = 0) → (v'.ownBlock = v.ownBlock ∨ v'.ownBlock = some w.heap.size) → K (a.put o.dst v') w') :
    if Region.wanted o (yielded ops a.tmps) = true then Oper.wp P o a w K Q else E := by
  have hw : Region.wanted o (yielded ops a.tmps) = true := by simp [Region.wanted, hg]
  rw [if_pos hw]
  obtain ⟨v', w', hrun, r1, r2, r3, r4⟩ := run_append_own_at (P := P) w base t o.type e i z size bytes h1 h2 h3 h4 h5 h6 h7 v k xs hown ad m c news hn hc h1c b1 b2 b3
  unfold Oper.wp
  simp [execOp, hop, resolve, invoke, builtin, hs, hx, hrun, Result.andThen]
  exact hK v' w' r1 r2 r3 r4

/-- a slice of the call's own, at some place of its block -/
def Rq (w : World) (base : Nat) (v : Value) (n : Nat) (xs : List Value) : Prop :=
  xs.length = n ∧ ∃ g o cap cur, v = .slice (some ⟨g, o, none⟩) n cap ∧ base ≤ g ∧ w.heap[g]? = some (.cells cur 24 (0, 0)) ∧ n ≤ cap ∧ cap ≤ maxLen ∧ o + cap ≤ cur.size ∧ ∀ (j : Nat) (u : Value), xs[j]? = some u → cur[o + j]? = some u
section
variable {w w' : World} {base : Nat} {v : Value} {n : Nat} {xs : List Value}
theorem Rq.lt (h : Rq w base v n xs) : ∀ k, v.ownBlock = some k → base ≤ k ∧ k < w.heap.size := by
  obtain ⟨_, g, o, cap, cur, rfl, hb, hg, _⟩ := h
  intro k hk
  have : g = k := by simpa [Value.ownBlock] using hk
  subst this
  exact ⟨hb, (Array.getElem?_eq_some_iff.1 hg).1⟩
theorem Rq.of_own (h : w.ownsRow base 24 1 v n xs) (hv : v ≠ .slice none 0 0) : Rq w base v n xs := by
  refine ⟨by simpa using h.1, ?_⟩
  rcases h.2 with ⟨e, _⟩ | ⟨g, cap, cur, rfl, hb, hg, hnc, hcm, hcs, ht⟩
  · exact absurd e hv
  · refine ⟨g, 0, cap, cur, rfl, hb, hg, hnc, hcm, by omega, fun j u hu => ?_⟩
    rw [← ht, List.getElem?_take] at hu
    split at hu
    · simpa using hu
    · cases hu
theorem Rq.kept {row : Option Nat} (h : Rq w base v n xs) (hg : w.grownBy w' row) (hne : v.ownBlock ≠ row) : Rq w' base v n xs := by
  obtain ⟨h1, g, o, cap, cur, rfl, hb, hh, hr⟩ := h
  exact ⟨h1, g, o, cap, cur, rfl, hb, by rw [hg.block g (Array.getElem?_eq_some_iff.1 hh).1 (by simpa [Value.ownBlock] using hne)]; exact hh, hr⟩
theorem Rq.below (h : Rq w base v n xs) (hb : Below w.heap.size w w') : Rq w' base v n xs := by
  obtain ⟨h1, g, o, cap, cur, rfl, hg, hh, hr⟩ := h
  exact ⟨h1, g, o, cap, cur, rfl, hg, by rw [hb.block g (Array.getElem?_eq_some_iff.1 hh).1]; exact hh, hr⟩
theorem Rq.form (h : Rq w base v n xs) : ∃ g o cap, v = .slice (some ⟨g, o, none⟩) n cap ∧ base ≤ g ∧ g < w.heap.size ∧ n ≤ cap ∧ ∀ (j : Nat) (u : Value), xs[j]? = some u → w.cell? ((⟨g, o, none⟩ : Addr).add j) = some u := by
  obtain ⟨h1, g, o, cap, cur, rfl, hg, hh, hnc, hcm, hoc, hc⟩ := h
  refine ⟨g, o, cap, rfl, hg, (Array.getElem?_eq_some_iff.1 hh).1, hnc, fun j u hu => ?_⟩
  rw [Addr.add_mid, cell_of_row w g _ cur 24 (0, 0) hh]
  exact hc j u hu
/-- without its first -/
theorem Rq.pop {g o cap : Nat} {x : Value} (h : Rq w base (.slice (some ⟨g, o, none⟩) (n + 1) cap) (n + 1) (x :: xs)) : ∃ o', (if cap = 1 then some (⟨g, o, none⟩ : Addr) else some (⟨g, o + 1, none⟩ : Addr)) = some ⟨g, o', none⟩ ∧ Rq w base (.slice (some ⟨g, o', none⟩) n (cap - 1)) n xs := by
  obtain ⟨h1, g', o', cap', cur, hv, hg, hh, hnc, hcm, hoc, hc⟩ := h
  injection hv with e1 e2 e3
  injection e1 with e1
  injection e1 with e4 e5 e6
  subst e3 e4 e5
  have hl : xs.length = n := by simpa using h1
  by_cases e : cap = 1
  · subst e
    refine ⟨o, by rw [if_pos rfl], hl, g, o, 0, cur, rfl, hg, hh, by omega, by omega, by omega, fun j u hu => ?_⟩
    have : j < xs.length := (List.getElem?_eq_some_iff.1 hu).1
    omega
  · refine ⟨o + 1, by rw [if_neg e], hl, g, o + 1, cap - 1, cur, rfl, hg, hh, by omega, by omega, by omega, fun j u hu => ?_⟩
    have := hc (j + 1) u (by simpa using hu)
    rw [show o + 1 + j = o + (j + 1) by omega]; exact this
end

section
variable {P : Program} (w : World)
theorem run_append_q (base : Nat) (t ty : TypeId) (i : TypeInfo) (z : Value) (bytes : Nat) (ht : P.underlying t = some (.slice 24)) (hi : P.info? 24 = some i) (hz : i.zero = some z) (hsize : i.size = 1) (hby : i.bytes = bytes) (hzs : z.cells.size = 1)
    (v : Value) (n : Nat) (xs : List Value) (hown : Rq w base v n xs) (a : Addr) (m c : Nat) (news : List Value) (hl : news.length = m) (hnews : ∀ j u, news[j]? = some u → w.cell? (a.add j) = some u) (h1 : ∀ u ∈ news, u.oneCell' = true)
    (hm : 0 < m) (h63 : n + m ≤ maxLen) (hbytes : (n + m) * bytes ≤ 140737488355328) (hbase : base ≤ w.heap.size) :
    ∃ v' w', (Builtin.append_ #[t, t] ty #[v, .slice (some a) m c]).run P w = .ok v' w' ∧ Rq w' base v' (n + m) (xs ++ news) ∧ w.grownBy w' v.ownBlock ∧ (v'.ownBlock = v.ownBlock ∨ ∀ g, v'.ownBlock = some g → w.heap.size ≤ g) := by
  have hown' := hown
  obtain ⟨hx, g, o, cap, cur, rfl, hbg, hg, hnc, hcm, hoc, hcell⟩ := hown
  by_cases hroom : n + m ≤ cap
  · have hf := run_firstCells_some (P := P) w i.size m a m c news (by rw [hsize, hl]; omega) hnews
    have hst := run_storeCells_at P g (o + n * i.size) 24 news 0 cur w hg (by rw [hsize, hl]; omega) h1
    simp only [Nat.add_zero] at hst
    refine ⟨.slice (some ⟨g, o, none⟩) (n + m) cap, w.setRow g (cur.toList.take (o + n * i.size) ++ news ++ cur.toList.drop (o + n * i.size + news.length)).toArray, ?_, ?_, ⟨rfl, rfl, rfl, by simp, fun k _ hk => setRow_other w g k _ (fun e => hk (by simp [Value.ownBlock, e]))⟩, .inl rfl⟩
    · simp [Builtin.append_, run_underlying ht, sizeOf, typeInfo, hi, Builtin.lenOf, hroom, hf, Addr.add_lit, hst]
    · rw [hsize, Nat.mul_one]
      have hlt : (cur.toList.take (o + n)).length = o + n := by rw [List.length_take, Array.length_toList]; omega
      refine ⟨by rw [List.length_append, hx, hl], g, o, cap, _, rfl, hbg, setRow_heap w g cur _ 24 _ hg, hroom, hcm, ?_, fun j u hu => ?_⟩
      · simp only [List.size_toArray, List.length_append, List.length_drop, Array.length_toList, hlt, hl]
        omega
      · rw [List.getElem?_toArray]
        by_cases hj : j < n
        · rw [List.getElem?_append_left (by omega)] at hu
          rw [List.getElem?_append_left (by rw [List.length_append, hlt]; omega), List.getElem?_append_left (by rw [hlt]; omega), List.getElem?_take, if_pos (by omega)]
          simpa using hcell j u hu
        · rw [List.getElem?_append_right (by omega), hx] at hu
          have hjm : j - n < news.length := (List.getElem?_eq_some_iff.1 hu).1
          rw [List.getElem?_append_left (by rw [List.length_append, hlt]; omega), List.getElem?_append_right (by rw [hlt]; omega), hlt, show o + j - (o + n) = j - n by omega]
          exact hu
  · have holds : ∀ j u, xs[j]? = some u → w.cell? ((⟨g, o, none⟩ : Addr).add j) = some u := fun j u hu => by
      rw [Addr.add_mid, cell_of_row w g _ cur 24 (0, 0) hg]
      exact hcell j u hu
    obtain ⟨v', w', hr, hrow, hgr⟩ := run_append_arg_grows (P := P) w t ty 24 i z 1 bytes ht hi hz hsize hby hzs (by decide) ⟨g, o, none⟩ n cap xs (by omega) holds a m c news (by omega) hnews (by omega) h63 hbytes
    refine ⟨v', w', hr, ?_, ⟨hgr.os, hgr.tape, hgr.output, hgr.size, fun k hk _ => hgr.block k hk (by simp)⟩, .inr fun g' hg' => (hrow.lt g' hg').1⟩
    have hne : v' ≠ .slice none 0 0 := fun e => by
      rcases hrow.2 with ⟨_, h0⟩ | ⟨_, _, _, h1, _⟩
      · omega
      · rw [e] at h1; cases h1
    obtain ⟨k1, g', o', cap', cur', k2, k3, kr⟩ := Rq.of_own hrow hne
    exact ⟨k1, g', o', cap', cur', k2, by omega, kr⟩
theorem step_append_q {ops : Array Oper} {o : Oper} {a : Act} {K : Act → World → Prop} {Q : Exit → Act → World → Prop} {E : Prop}
    (hgd : o.guard = none) (s x : Operand) (t : TypeId) (hop : o.op = Op.call { callee := Callee.builtin Builtin.append, args := #[s, x], argTypes := #[t, t] })
    (base : Nat) (i : TypeInfo) (z : Value) (bytes : Nat) (ht : P.underlying t = some (.slice 24)) (hi : P.info? 24 = some i) (hz : i.zero = some z) (hsize : i.size = 1) (hby : i.bytes = bytes) (hzs : z.cells.size = 1)
    (v : Value) (n : Nat) (xs : List Value) (hs : a.eval s = v) (hown : Rq w base v n xs) (ad : Addr) (m c : Nat) (news : List Value) (hx : a.eval x = .slice (some ad) m c) (hl : news.length = m) (hnews : ∀ j u, news[j]? = some u → w.cell? (ad.add j) = some u) (h1 : ∀ u ∈ news, u.oneCell' = true)
    (hm : 0 < m) (h63 : n + m ≤ maxLen) (hbytes : (n + m) * bytes ≤ 140737488355328) (hbase : base ≤ w.heap.size)
    (hK : ∀ v' w', Rq w' base v' (n + m) (xs ++ news) → w.grownBy w' v.ownBlock → (v'.ownBlock = v.ownBlock ∨ ∀ g, v'.ownBlock = some g → w.heap.size ≤ g) → K (a.put o.dst v') w') :
    if Region.wanted o (yielded ops a.tmps) = true then Oper.wp P o a w K Q else E := by
  have hw : Region.wanted o (yielded ops a.tmps) = true := by simp [Region.wanted, hgd]
  rw [if_pos hw]
  obtain ⟨v', w', hrun, r1, r2, r3⟩ := run_append_q (P := P) w base t o.type i z bytes ht hi hz hsize hby hzs v n xs hown ad m c news hl hnews h1 hm h63 hbytes hbase
  unfold Oper.wp
  simp [execOp, hop, resolve, invoke, builtin, hs, hx, hrun, Result.andThen]
  exact hK v' w' r1 r2 r3
end

theorem wpList_append_q {P : Program} (w : World) {ops : Array Oper} {rest : List Oper} {o : Oper} {a : Act} {Q : Exit → Act → World → Prop}
    (hgd : o.guard = none) (s x : Operand) (t : TypeId) (hop : o.op = Op.call { callee := Callee.builtin Builtin.append, args := #[s, x], argTypes := #[t, t] })
    (base : Nat) (i : TypeInfo) (z : Value) (bytes : Nat) (ht : P.underlying t = some (.slice 24)) (hi : P.info? 24 = some i) (hz : i.zero = some z) (hsize : i.size = 1) (hby : i.bytes = bytes) (hzs : z.cells.size = 1)
    (v : Value) (n : Nat) (xs : List Value) (hs : a.eval s = v) (hown : Rq w base v n xs) (ad : Addr) (m c : Nat) (news : List Value) (hx : a.eval x = .slice (some ad) m c) (hl : news.length = m) (hnews : ∀ j u, news[j]? = some u → w.cell? (ad.add j) = some u) (h1 : ∀ u ∈ news, u.oneCell' = true)
    (hm : 0 < m) (h63 : n + m ≤ maxLen) (hbytes : (n + m) * bytes ≤ 140737488355328) (hbase : base ≤ w.heap.size)
    (hK : ∀ v' w', Rq w' base v' (n + m) (xs ++ news) → w.grownBy w' v.ownBlock → (v'.ownBlock = v.ownBlock ∨ ∀ g, v'.ownBlock = some g → w.heap.size ≤ g) → wpList P ops Q rest (a.put o.dst v') w') :
    wpList P ops Q (o :: rest) a w := by
  refine wpList_plain hgd fun K hK' => ?_
  obtain ⟨v', w', hrun, r1, r2, r3⟩ := run_append_q (P := P) w base t o.type i z bytes ht hi hz hsize hby hzs v n xs hown ad m c news hl hnews h1 hm h63 hbytes hbase
  unfold Oper.wp
  simp [execOp, hop, resolve, invoke, builtin, hs, hx, hrun, Result.andThen]
  exact hK' _ _ (hK v' w' r1 r2 r3)

/-- rows that are read alone; none lies in the block of v -/
def Qs (w : World) (v : Value) (vs : List Value) (Ls : List (List Int)) : Prop :=
  vs.length = Ls.length ∧ ∀ (i : Nat) (L : List Int), Ls[i]? = some L → ∃ (Ai : Option Addr) (ci : Nat), vs[i]? = some (.slice Ai L.length ci) ∧ RI w Ai L.length L ∧ ∀ ad, Ai = some ad → v.ownBlock ≠ some ad.block
theorem RI.grown {w w' : World} {A : Option Addr} {n : Nat} {zs : List Int} {row : Option Nat} (h : RI w A n zs) (hg : w.grownBy w' row) (hne : ∀ ad, A = some ad → row ≠ some ad.block) : RI w' A n zs := by
  refine ⟨h.1, h.2.1, fun hn => ?_⟩
  obtain ⟨ad, e, hb, hc⟩ := h.2.2 hn
  refine ⟨ad, e, Nat.lt_of_lt_of_le hb hg.size, fun j u hu => ?_⟩
  rw [World.cell?_of_block (hg.block _ (by rw [block_of_add]; exact hb) (fun e' => hne ad e (by rw [← e', block_of_add])))]
  exact hc j u hu
section
variable {w w' : World} {v v' : Value} {vs : List Value} {Ls : List (List Int)}
theorem Qs.below (h : Qs w v vs Ls) (hb : Below w.heap.size w w') : Qs w' v vs Ls :=
  ⟨h.1, fun i L hL => by
    obtain ⟨Ai, ci, h1, h2, h3⟩ := h.2 i L hL
    exact ⟨Ai, ci, h1, h2.below hb, h3⟩⟩
theorem Qs.tail {u : Value} {L : List Int} (h : Qs w v (u :: vs) (L :: Ls)) : Qs w v vs Ls :=
  ⟨by simpa using h.1, fun i M hM => h.2 (i + 1) M (by simpa using hM)⟩
theorem Qs.val (h : Qs w v vs Ls) (e : v'.ownBlock = v.ownBlock) : Qs w v' vs Ls :=
  ⟨h.1, fun i L hL => by
    obtain ⟨Ai, ci, h1, h2, h3⟩ := h.2 i L hL
    exact ⟨Ai, ci, h1, h2, fun ad ha => by rw [e]; exact h3 ad ha⟩⟩
/-- behind an append to v itself -/
theorem Qs.grown (h : Qs w v vs Ls) (hl : ∀ L ∈ Ls, 0 < L.length) (hg : w.grownBy w' v.ownBlock) (hat : v'.ownBlock = v.ownBlock ∨ ∀ g, v'.ownBlock = some g → w.heap.size ≤ g) : Qs w' v' vs Ls :=
  ⟨h.1, fun i L hL => by
    obtain ⟨Ai, ci, h1, h2, h3⟩ := h.2 i L hL
    refine ⟨Ai, ci, h1, h2.grown hg h3, fun ad ha => ?_⟩
    rcases hat with e | e
    · rw [e]; exact h3 ad ha
    · intro e'
      obtain ⟨ad', ea, hb, _⟩ := h2.2.2 (hl L (List.mem_of_getElem? hL))
      rw [ha] at ea; injection ea with ea; subst ea
      have := e _ e'
      omega⟩
theorem Qs.snoc {Ai : Option Addr} {ci : Nat} {L : List Int} (h : Qs w v vs Ls) (hr : RI w Ai L.length L) (hne : ∀ ad, Ai = some ad → v.ownBlock ≠ some ad.block) : Qs w v (vs ++ [.slice Ai L.length ci]) (Ls ++ [L]) := by
  refine ⟨by simp [h.1], fun i M hM => ?_⟩
  by_cases hi : i < Ls.length
  · rw [List.getElem?_append_left hi] at hM
    obtain ⟨Aj, cj, h1, h2, h3⟩ := h.2 i M hM
    exact ⟨Aj, cj, by rw [List.getElem?_append_left (by rw [h.1]; exact hi)]; exact h1, h2, h3⟩
  · have hl : i < (Ls ++ [L]).length := (List.getElem?_eq_some_iff.1 hM).1
    have he : i = Ls.length := by simp at hl; omega
    subst he
    rw [List.getElem?_append_right (Nat.le_refl _), Nat.sub_self] at hM
    simp at hM; subst hM
    exact ⟨Ai, ci, by rw [List.getElem?_append_right (by rw [h.1]; exact Nat.le_refl _), h.1, Nat.sub_self]; rfl, hr, hne⟩
theorem Qs.one (h : Qs w v vs Ls) : ∀ u ∈ vs, u.oneCell' = true := fun u hu => by
  obtain ⟨i, hi, rfl⟩ := List.getElem_of_mem hu
  obtain ⟨Ai, ci, h1, _⟩ := h.2 i _ (List.getElem?_eq_getElem (show i < Ls.length by rw [← h.1]; exact hi))
  rw [List.getElem?_eq_getElem hi] at h1
  injection h1 with h1
  rw [h1]; rfl
end
end

/-! spec.l3Put: one list more, at its place. -/
section
open Go.RowKit

/-- what lies behind the first append of the line -/
structure InsV (w W : World) (v : Value) (L : List Value) : Prop where
  own : W.ownsRow w.heap.size 24 1 v L.length L
  bel : Below w.heap.size w W
theorem InsV.app {w W w1 : World} {v v' : Value} {m : Nat} {L M : List Value} (h : InsV w W v L) (hown' : w1.ownsRow w.heap.size 24 1 v' (L.length + m) (L ++ M)) (hM : M.length = m) (hgrow : W.grownBy w1 v.ownBlock) : InsV w w1 v' (L ++ M) :=
  ⟨by rw [List.length_append, hM]; exact hown', h.bel.grown hgrow h.bel.size (fun k e => (h.own.lt k e).1)⟩
theorem InsV.alloc {w W : World} {v : Value} {L : List Value} (h : InsV w W v L) (o : Obj) : InsV w (W.alloc o) v L := ⟨h.own.alloc o, h.bel.alloc h.bel.size o⟩
theorem insV_lit {w W : World} (hB : Below w.heap.size w W) : InsV w (W.alloc (.cells #[] 24)) (.slice (some ⟨W.heap.size, 0, none⟩) 0 0) [] :=
  ⟨own_base (World.ownsRow_lit (base := W.heap.size) (e := 24) (size := 1) W #[] 0 (Nat.le_refl _) (by simp [maxLen]) rfl) hB.size, hB.alloc hB.size _⟩
theorem one_atV {W : World} {B : Nat} {u : Value} (h : W.cell? ⟨B, 0, none⟩ = some u) : ∀ (j : Nat) (x : Value), [u][j]? = some x → W.cell? ((⟨B, 0, none⟩ : Addr).add j) = some x := fun j x hx => by
  match j, hx with
  | 0, hx =>
    simp at hx; subst hx
    rw [Addr.add_mid]; exact h
  | j + 1, hx => simp at hx
theorem ocapV {w : World} {base size n N c : Nat} {e : TypeId} {a : Addr} {xs : List Value} (h : w.ownsRow base e size (.slice (some a) N c) n xs) : N = n ∧ n ≤ c ∧ c ≤ maxLen := by
  rcases h.2 with ⟨h1, _⟩ | ⟨g, cap, cur, h1, _, _, h2, h3, _⟩
  · cases h1
  · cases h1; exact ⟨rfl, h2, h3⟩
theorem news_atV {W : World} {base g t cp : Nat} {vs : List Value} (h : W.ownsRow base 24 1 (.slice (some ⟨g, 0, none⟩) t cp) t vs) (q k : Nat) :
    ∀ j u, ((vs.drop q).take k)[j]? = some u → W.cell? ((⟨g, q, none⟩ : Addr).add j) = some u := fun j u hu => by
  rw [List.getElem?_take] at hu
  split at hu
  · rw [List.getElem?_drop] at hu
    have := h.cells rfl (q + j) u hu
    rw [Addr.add_mid] at this ⊢
    rw [Nat.zero_add] at this; exact this
  · cases hu
set_option maxHeartbeats 16000000 in
theorem l3Put_any (g t cp base : Nat) (B : Option Addr) (m d : Nat) (vs : List Value) (zs : List (List Int)) (f : List Int) (w : World) (hov : OV w base (.slice (some ⟨g, 0, none⟩) t cp) vs zs) (hf : RI w B m f) (ht : t ≤ 1048576)
    (hl : ∀ L ∈ zs, L.length ≤ 1048576) (hm : m ≤ 1048576) (hno : fndI zs f < 0) :
    Calls Tryz.prog 137 #[.slice (some ⟨g, 0, none⟩) t cp, .slice B m d] w fun e w' => ∃ (v : Value) (k : Nat), e = .returned v ∧ k ≤ t ∧ w'.ownsRow w.heap.size 24 1 v (t + 1) ((vs.take k ++ [.slice B m d]) ++ vs.drop k) ∧ (∀ M ∈ zs.drop k, lexB f M = true) ∧ (k ≠ 0 → lexB f (ent zs (k - 1)) = false) ∧ Below w.heap.size w w' := by
  obtain ⟨i0, hi, hz0, hz1, hz2⟩ := info_parts info_ints
  have hcap := ocapV hov.row
  have HL : Hid (zs.length = t) := hcap.1.symm
  have hrow : w.ownsRow base 24 1 (.slice (some ⟨g, 0, none⟩) t cp) t vs := by have := hov.row; rwa [← hcap.1] at this
  have hR : RSS w (some ⟨g, 0, none⟩) t zs := by have := (RSS.of_own hov.oss).2; rwa [← hcap.1] at this
  have hgl : g < w.heap.size := (hrow.lt g rfl).2
  have hVL : vs.length = t := by have := hrow.1; omega
  have hcp : t ≤ cp := by have := hcap.2.1; omega
  have HONE : Hid (∀ u ∈ vs, u.oneCell' = true) := inn_one hov.inn
  have HROW := Lib.hid hrow
  have HR := Lib.hid hR
  have HF := Lib.hid hf
  have hfd := l3Find_any (some ⟨g, 0, none⟩) B t m cp d zs f w hR hf ht hl
  have HLE : Hid (∀ p : Nat, (ent zs p).length ≤ 1048576) := fun p => get_len zs (k := p) hl
  clear hov hrow hR hf hl hcap
  generalize fndI zs f = r at hfd hno
  have hd0 : decide ((0 : Int) ≤ r) = false := decide_eq_false (by omega)
  have hd1 : decide (r ≥ (0 : Int)) = false := decide_eq_false (by omega)
  go_enter Tryz.func137, Tryz.ntmps137
  go_wp2_with fail
  refine hfd.mono ?_
  rintro e w1 ⟨rfl, hq1⟩
  have hB1 : Below w.heap.size w w1 := by obtain ⟨q, rfl⟩ := hq1; exact ⟨rfl, rfl, rfl, Nat.le_refl _, fun _ _ => rfl⟩
  clear hq1 hfd
  go_wp2
  go_loopw [5] (fun k wr => ∃ q : Nat, q ≤ t ∧ k = .int .i64 (q : Int) ∧ Hid (∀ M ∈ zs.drop q, lexB f M = true) ∧ Below w.heap.size w wr) (fun k _ => (intOf k).toNat)
  case atStart => exact ⟨t, Nat.le_refl _, rfl, (fun y hy => by rw [List.drop_eq_nil_of_le (by rw [HL.out]; exact Nat.le_refl _)] at hy; cases hy), hB1⟩
  case round =>
    clear hB1
    obtain ⟨q, hq, rfl, HD, hB⟩ := hrel
    by_cases hq0 : 0 < q
    · obtain ⟨p, hpq⟩ : ∃ p, p + 1 = q := ⟨q - 1, by omega⟩
      have hqp : (q : Int) - 1 = (p : Int) := by omega
      have hp6 : p ≤ 1048576 := by omega
      have hg1 : decide ((0 : Int) < (q : Int)) = true := decide_eq_true (by omega)
      have hpt : (p : Int) < (t : Int) := by omega
      obtain ⟨ad, Ai, ci, hA, hab, hc, hri⟩ := (HR.out.below hB).at_ (k := p) (by omega)
      injection hA with hA
      subst hA
      have hent : zs[p]?.getD [] = ent zs p := rfl
      rw [hent] at hc hri
      rw [Addr.add_mid, Nat.zero_add] at hc
      have HLQ : Hid (p < q) := by show _ < _; omega
      have HPT : Hid (p ≤ t) := by show _ ≤ _; omega
      have hle := l3Less_any B Ai m _ d ci f (ent zs p) wr (HF.out.below hB) hri hm
      have HDN : Hid (lexB f (ent zs p) = true → ∀ M ∈ zs.drop p, lexB f M = true) := fun h => drop_step (by rw [HL.out]; omega) h (by rw [hpq]; exact HD.out)
      have HLST : Hid (lexB f (ent zs p) = false → q ≠ 0 → lexB f (ent zs (q - 1)) = false) := fun h _ => by rw [← hpq, Nat.add_sub_cancel]; exact h
      have hw1 := (wrap_small hp6).1
      have hw2 := (wrap_small hp6).2
      clear hent hri hab
      generalize (ent zs p).length = y at hc hle
      cases hx : lexB f (ent zs p)
      · have HKL := Lib.hid (HLST.out hx)
        rw [hx] at hle
        clear hx HDN HLST hpq
        go_wp2_with fail
        refine hle.mono ?_
        rintro e w2 ⟨rfl, hq2⟩
        have hB2 : Below w.heap.size w w2 := by obtain ⟨q, rfl⟩ := hq2; exact hB.trans ⟨rfl, rfl, rfl, Nat.le_refl _, fun _ _ => rfl⟩
        clear hq2 hle hw1 hw2 hc hB
        go_wp2_with fail
        have hwr := hB2.size
        have hBd : Below w.heap.size w w2.drew := ⟨hB2.os, hB2.tape, hB2.output, hB2.size, hB2.block⟩
        have hqc : q ≤ cp := by omega
        have HSRC : Hid (∀ W : World, Below w.heap.size w W → W.ownsRow base 24 1 (.slice (some ⟨g, 0, none⟩) t cp) t vs) := fun W hW => own_below HROW.out hW
        have hI0 : InsV w (w2.drew.alloc (.cells #[] 24)) (.slice (some ⟨w2.heap.size, 0, none⟩) 0 0) [] := insV_lit hBd
        have hIb := hI0.alloc (.cells #[.slice B m d] 24)
        have hIc : InsV w ((w2.drew.alloc (.cells #[.slice B m d] 24)).alloc (.cells #[] 24)) (.slice (some ⟨w2.heap.size + 1, 0, none⟩) 0 0) [] := by
          have := insV_lit (hBd.alloc hBd.size (.cells #[.slice B m d] 24))
          rwa [World.size_alloc] at this
        have hXb : ((w2.drew.alloc (.cells #[] 24)).alloc (.cells #[.slice B m d] 24)).cell? ⟨w2.heap.size + 1, 0, none⟩ = some (.slice B m d) := by
          have := cell_one_new (w2.drew.alloc (.cells #[] 24)) (.slice B m d) 24 0 _ rfl
          rw [World.size_alloc] at this
          exact this
        have hXc : ((w2.drew.alloc (.cells #[.slice B m d] 24)).alloc (.cells #[] 24)).cell? ⟨w2.heap.size, 0, none⟩ = some (.slice B m d) := (World.cell?_alloc_lt _ _ ⟨w2.heap.size, 0, none⟩ (by show w2.heap.size < (w2.drew.alloc _).heap.size; simp)).trans (cell_one_new w2.drew (.slice B m d) 24 0 _ rfl)
        have hn1 := news_atV (HSRC.out _ hI0.bel) 0 q
        have hnb := news_atV (HSRC.out _ hIb.bel) 0 q
        have hnc := news_atV (HSRC.out _ hIc.bel) 0 q
        have hneb : some w2.heap.size.succ ≠ (Value.slice (some ⟨w2.heap.size, 0, none⟩) 0 0).ownBlock := by simp [Value.ownBlock]
        have hnec : some w2.heap.size ≠ (Value.slice (some ⟨w2.heap.size + 1, 0, none⟩) 0 0).ownBlock := by simp [Value.ownBlock]
        have hE0 : (w2.drew.alloc (.cells #[] 24)).ownsRow w.heap.size 24 1 (.slice (some ⟨w2.heap.size, 0, none⟩) 0 0) 0 [] := hI0.own
        have hM1 : ((vs.drop 0).take q).length = q := by simp; omega
        have hL1 : ([] ++ (vs.drop 0).take q).length = q := by simp; omega
        have hL2 : (([] ++ (vs.drop 0).take q) ++ [Value.slice B m d]).length = q + 1 := by rw [List.length_append, hL1]; rfl
        have hl1 : ((vs.drop 0).take q).length = q * 1 := by rw [hM1, Nat.mul_one]
        have ho1 : ∀ u ∈ (vs.drop 0).take q, u.oneCell' = true := fun u hu => HONE.out u (List.mem_of_mem_drop (List.mem_of_mem_take hu))
        have ho2 : ∀ u ∈ [Value.slice B m d], u.oneCell' = true := fun u hu => by rw [List.mem_singleton.1 hu]; rfl
        have ho3 : ∀ u ∈ (vs.drop q).take (t - q), u.oneCell' = true := fun u hu => HONE.out u (List.mem_of_mem_drop (List.mem_of_mem_take hu))
        have b1 : 0 + q ≤ maxLen := by unfold maxLen; omega
        have b2 : (0 + q) * 24 ≤ 140737488355328 := by omega
        have b3 : w.heap.size ≤ (w2.drew.alloc (.cells #[] 24)).heap.size := by simp; omega
        have b4 : q + 1 ≤ maxLen := by unfold maxLen; omega
        have b5 : (q + 1) * 24 ≤ 140737488355328 := by omega
        have b6 : q + 1 + (t - q) ≤ maxLen := by unfold maxLen; omega
        have b7 : (q + 1 + (t - q)) * 24 ≤ 140737488355328 := by omega
        have hM3 : ((vs.drop q).take (t - q)).length = t - q := by simp; omega
        have hl3 : ((vs.drop q).take (t - q)).length = (t - q) * 1 := by rw [hM3, Nat.mul_one]
        have HLEN : Hid (q + 1 + (t - q) = t + 1) := by show _ = _; omega
        have HLST : Hid ((([] ++ (vs.drop 0).take q) ++ [Value.slice B m d]) ++ (vs.drop q).take (t - q) = (vs.take q ++ [.slice B m d]) ++ vs.drop q) := by
          show _ = _
          rw [List.nil_append, List.drop_zero, List.take_of_length_le (show (vs.drop q).length ≤ t - q by rw [List.length_drop]; omega)]
        obtain ⟨AD, hAD, hn3⟩ : ∃ AD : Addr, (if cp = q then some (⟨g, 0, none⟩ : Addr) else some ⟨g, q, none⟩) = some AD ∧ (∀ W : World, W.ownsRow base 24 1 (.slice (some ⟨g, 0, none⟩) t cp) t vs → ∀ j u, ((vs.drop q).take (t - q))[j]? = some u → W.cell? (AD.add j) = some u) := by
          by_cases e : cp = q
          · refine ⟨⟨g, 0, none⟩, if_pos e, fun W _ j u hu => ?_⟩
            have : t - q = 0 := by omega
            rw [this] at hu; simp at hu
          · exact ⟨⟨g, q, none⟩, if_neg e, fun W hW => news_atV hW q (t - q)⟩
        go_region_law (first
                      | (refine step_app_at _ rfl _ _ 23 rfl w.heap.size 24 i0 (.slice none 0 0) 1 24 Tryz.underlying23 hi hz0 hz1 hz2 rfl (by decide) (.slice (some ⟨w2.heap.size, 0, none⟩) 0 0) 0 [] rfl hE0 ⟨g, 0, none⟩ q cp ((vs.drop 0).take q) rfl hl1 hn1 ho1 b1 b2 b3 ?_
                         intro v1 w1 hown1 hgrow1 _ hat1
                         have hI1 := InsV.app hI0 hown1 hM1 hgrow1
                         have hI1x := hI1.alloc (.cells #[.slice B m d] 24)
                         obtain ⟨A1, c1, hv1⟩ := own_slice hI1.own
                         rw [hL1] at hv1
                         subst hv1
                         clear hown1 hgrow1 hat1)
                      | (refine step_app_at _ rfl _ _ 23 rfl w.heap.size 24 i0 (.slice none 0 0) 1 24 Tryz.underlying23 hi hz0 hz1 hz2 rfl (by decide) (.slice (some ⟨w2.heap.size, 0, none⟩) 0 0) 0 [] rfl hIb.own ⟨g, 0, none⟩ q cp ((vs.drop 0).take q) rfl hl1 hnb ho1 b1 b2 hIb.bel.size ?_
                         intro v1 w1 hown1 hgrow1 _ hat1
                         have hI1 := InsV.app hIb hown1 hM1 hgrow1
                         have hX1 := (hgrow1.cell hXb hneb)
                         obtain ⟨A1, c1, hv1⟩ := own_slice hI1.own
                         rw [hL1] at hv1
                         subst hv1
                         clear hown1 hgrow1 hat1)
                      | (refine step_app_at _ rfl _ _ 23 rfl w.heap.size 24 i0 (.slice none 0 0) 1 24 Tryz.underlying23 hi hz0 hz1 hz2 rfl (by decide) (.slice (some ⟨w2.heap.size + 1, 0, none⟩) 0 0) 0 [] rfl hIc.own ⟨g, 0, none⟩ q cp ((vs.drop 0).take q) rfl hl1 hnc ho1 b1 b2 hIc.bel.size ?_
                         intro v1 w1 hown1 hgrow1 _ hat1
                         have hI1 := InsV.app hIc hown1 hM1 hgrow1
                         have hX1 := (hgrow1.cell hXc hnec)
                         obtain ⟨A1, c1, hv1⟩ := own_slice hI1.own
                         rw [hL1] at hv1
                         subst hv1
                         clear hown1 hgrow1 hat1)
                      | (refine step_app_at _ rfl _ _ 23 rfl w.heap.size 24 i0 (.slice none 0 0) 1 24 Tryz.underlying23 hi hz0 hz1 hz2 rfl (by decide) _ _ _ rfl hI1x.own ⟨w1.heap.size, 0, none⟩ 1 1 [.slice B m d] rfl rfl (cell_one_new _ _ _) ho2 (by rw [hL1]; exact b4) (by rw [hL1]; exact b5) hI1x.bel.size ?_
                         intro v2 w2q hown2 hgrow2 _ hat2
                         have hI2 := InsV.app hI1x hown2 rfl hgrow2
                         obtain ⟨A2, c2, hv2⟩ := own_slice hI2.own
                         rw [hL2] at hv2
                         subst hv2
                         clear hown2 hgrow2 hat2)
                      | (refine step_app_at _ rfl _ _ 23 rfl w.heap.size 24 i0 (.slice none 0 0) 1 24 Tryz.underlying23 hi hz0 hz1 hz2 rfl (by decide) _ _ _ rfl hI1.own ⟨w2.heap.size + 1, 0, none⟩ 1 1 [.slice B m d] rfl rfl (one_atV hX1) ho2 (by rw [hL1]; exact b4) (by rw [hL1]; exact b5) hI1.bel.size ?_
                         intro v2 w2q hown2 hgrow2 _ hat2
                         have hI2 := InsV.app hI1 hown2 rfl hgrow2
                         obtain ⟨A2, c2, hv2⟩ := own_slice hI2.own
                         rw [hL2] at hv2
                         subst hv2
                         clear hown2 hgrow2 hat2)
                      | (refine step_app_at _ rfl _ _ 23 rfl w.heap.size 24 i0 (.slice none 0 0) 1 24 Tryz.underlying23 hi hz0 hz1 hz2 rfl (by decide) _ _ _ rfl hI1.own ⟨w2.heap.size, 0, none⟩ 1 1 [.slice B m d] rfl rfl (one_atV hX1) ho2 (by rw [hL1]; exact b4) (by rw [hL1]; exact b5) hI1.bel.size ?_
                         intro v2 w2q hown2 hgrow2 _ hat2
                         have hI2 := InsV.app hI1 hown2 rfl hgrow2
                         obtain ⟨A2, c2, hv2⟩ := own_slice hI2.own
                         rw [hL2] at hv2
                         subst hv2
                         clear hown2 hgrow2 hat2)
                      | (refine step_app_at _ rfl _ _ 23 rfl w.heap.size 24 i0 (.slice none 0 0) 1 24 Tryz.underlying23 hi hz0 hz1 hz2 rfl (by decide) _ _ _ rfl hI2.own AD (t - q) (cp - q) ((vs.drop q).take (t - q)) rfl hl3 (hn3 _ (HSRC.out _ hI2.bel)) ho3 (by rw [List.length_append, hL1]; exact b6) (by rw [List.length_append, hL1]; exact b7) hI2.bel.size ?_
                         intro v3 w3 hown3 hgrow3 _ hat3
                         have hI3 := InsV.app hI2 hown3 hM3 hgrow3
                         have hfin := hI3.own
                         rw [HLST.out] at hfin
                         have hfl : ((vs.take q ++ [Value.slice B m d]) ++ vs.drop q).length = t + 1 := by simp; omega
                         rw [hfl] at hfin
                         obtain ⟨A3, c3, hv3⟩ := own_slice hfin
                         subst hv3
                         clear hown3 hgrow3 hat3 hfl))
        all_goals go_simp
        all_goals go_wp2
        all_goals go_ret
        all_goals exact ⟨_, q, rfl, hq, hfin, HD.out, HKL.out, hI3.bel⟩
      · have HD2 := Lib.hid (HDN.out hx)
        rw [hx] at hle
        clear hx HDN HLST hpq
        go_wp2_with fail
        refine hle.mono ?_
        rintro e w2 ⟨rfl, hq2⟩
        have hB2 : Below w.heap.size w w2 := by obtain ⟨q, rfl⟩ := hq2; exact hB.trans ⟨rfl, rfl, rfl, Nat.le_refl _, fun _ _ => rfl⟩
        clear hq2 hle hc hB
        go_wp2
        clear hw1 hw2
        go_roundw
        case rel => exact ⟨p, HPT.out, rfl, HD2, hB2⟩
        case measure => have := HLQ.out; simp [intOf]; omega
    · have hqz : q = 0 := by omega
      have hg1 : decide ((0 : Int) < (q : Int)) = false := decide_eq_false (by omega)
      have hg2 : decide (0 < q) = false := decide_eq_false (by omega)
      have HKL : Hid (q ≠ 0 → lexB f (ent zs (q - 1)) = false) := fun h => absurd hqz h
      have hB2 := hB
      obtain ⟨w2, rfl⟩ : ∃ w2, w2 = wr := ⟨wr, rfl⟩
      clear hqz hq0 hB
      go_wp2_with fail
      have hwr := hB2.size
      have hBd : Below w.heap.size w w2.drew := ⟨hB2.os, hB2.tape, hB2.output, hB2.size, hB2.block⟩
      have hqc : q ≤ cp := by omega
      have HSRC : Hid (∀ W : World, Below w.heap.size w W → W.ownsRow base 24 1 (.slice (some ⟨g, 0, none⟩) t cp) t vs) := fun W hW => own_below HROW.out hW
      have hI0 : InsV w (w2.drew.alloc (.cells #[] 24)) (.slice (some ⟨w2.heap.size, 0, none⟩) 0 0) [] := insV_lit hBd
      have hIb := hI0.alloc (.cells #[.slice B m d] 24)
      have hIc : InsV w ((w2.drew.alloc (.cells #[.slice B m d] 24)).alloc (.cells #[] 24)) (.slice (some ⟨w2.heap.size + 1, 0, none⟩) 0 0) [] := by
        have := insV_lit (hBd.alloc hBd.size (.cells #[.slice B m d] 24))
        rwa [World.size_alloc] at this
      have hXb : ((w2.drew.alloc (.cells #[] 24)).alloc (.cells #[.slice B m d] 24)).cell? ⟨w2.heap.size + 1, 0, none⟩ = some (.slice B m d) := by
        have := cell_one_new (w2.drew.alloc (.cells #[] 24)) (.slice B m d) 24 0 _ rfl
        rw [World.size_alloc] at this
        exact this
      have hXc : ((w2.drew.alloc (.cells #[.slice B m d] 24)).alloc (.cells #[] 24)).cell? ⟨w2.heap.size, 0, none⟩ = some (.slice B m d) := (World.cell?_alloc_lt _ _ ⟨w2.heap.size, 0, none⟩ (by show w2.heap.size < (w2.drew.alloc _).heap.size; simp)).trans (cell_one_new w2.drew (.slice B m d) 24 0 _ rfl)
      have hn1 := news_atV (HSRC.out _ hI0.bel) 0 q
      have hnb := news_atV (HSRC.out _ hIb.bel) 0 q
      have hnc := news_atV (HSRC.out _ hIc.bel) 0 q
      have hneb : some w2.heap.size.succ ≠ (Value.slice (some ⟨w2.heap.size, 0, none⟩) 0 0).ownBlock := by simp [Value.ownBlock]
      have hnec : some w2.heap.size ≠ (Value.slice (some ⟨w2.heap.size + 1, 0, none⟩) 0 0).ownBlock := by simp [Value.ownBlock]
      have hE0 : (w2.drew.alloc (.cells #[] 24)).ownsRow w.heap.size 24 1 (.slice (some ⟨w2.heap.size, 0, none⟩) 0 0) 0 [] := hI0.own
      have hM1 : ((vs.drop 0).take q).length = q := by simp; omega
      have hL1 : ([] ++ (vs.drop 0).take q).length = q := by simp; omega
      have hL2 : (([] ++ (vs.drop 0).take q) ++ [Value.slice B m d]).length = q + 1 := by rw [List.length_append, hL1]; rfl
      have hl1 : ((vs.drop 0).take q).length = q * 1 := by rw [hM1, Nat.mul_one]
      have ho1 : ∀ u ∈ (vs.drop 0).take q, u.oneCell' = true := fun u hu => HONE.out u (List.mem_of_mem_drop (List.mem_of_mem_take hu))
      have ho2 : ∀ u ∈ [Value.slice B m d], u.oneCell' = true := fun u hu => by rw [List.mem_singleton.1 hu]; rfl
      have ho3 : ∀ u ∈ (vs.drop q).take (t - q), u.oneCell' = true := fun u hu => HONE.out u (List.mem_of_mem_drop (List.mem_of_mem_take hu))
      have b1 : 0 + q ≤ maxLen := by unfold maxLen; omega
      have b2 : (0 + q) * 24 ≤ 140737488355328 := by omega
      have b3 : w.heap.size ≤ (w2.drew.alloc (.cells #[] 24)).heap.size := by simp; omega
      have b4 : q + 1 ≤ maxLen := by unfold maxLen; omega
      have b5 : (q + 1) * 24 ≤ 140737488355328 := by omega
      have b6 : q + 1 + (t - q) ≤ maxLen := by unfold maxLen; omega
      have b7 : (q + 1 + (t - q)) * 24 ≤ 140737488355328 := by omega
      have hM3 : ((vs.drop q).take (t - q)).length = t - q := by simp; omega
      have hl3 : ((vs.drop q).take (t - q)).length = (t - q) * 1 := by rw [hM3, Nat.mul_one]
      have HLEN : Hid (q + 1 + (t - q) = t + 1) := by show _ = _; omega
      have HLST : Hid ((([] ++ (vs.drop 0).take q) ++ [Value.slice B m d]) ++ (vs.drop q).take (t - q) = (vs.take q ++ [.slice B m d]) ++ vs.drop q) := by
        show _ = _
        rw [List.nil_append, List.drop_zero, List.take_of_length_le (show (vs.drop q).length ≤ t - q by rw [List.length_drop]; omega)]
      obtain ⟨AD, hAD, hn3⟩ : ∃ AD : Addr, (if cp = q then some (⟨g, 0, none⟩ : Addr) else some ⟨g, q, none⟩) = some AD ∧ (∀ W : World, W.ownsRow base 24 1 (.slice (some ⟨g, 0, none⟩) t cp) t vs → ∀ j u, ((vs.drop q).take (t - q))[j]? = some u → W.cell? (AD.add j) = some u) := by
        by_cases e : cp = q
        · refine ⟨⟨g, 0, none⟩, if_pos e, fun W _ j u hu => ?_⟩
          have : t - q = 0 := by omega
          rw [this] at hu; simp at hu
        · exact ⟨⟨g, q, none⟩, if_neg e, fun W hW => news_atV hW q (t - q)⟩
      go_region_law (first
                    | (refine step_app_at _ rfl _ _ 23 rfl w.heap.size 24 i0 (.slice none 0 0) 1 24 Tryz.underlying23 hi hz0 hz1 hz2 rfl (by decide) (.slice (some ⟨w2.heap.size, 0, none⟩) 0 0) 0 [] rfl hE0 ⟨g, 0, none⟩ q cp ((vs.drop 0).take q) rfl hl1 hn1 ho1 b1 b2 b3 ?_
                       intro v1 w1 hown1 hgrow1 _ hat1
                       have hI1 := InsV.app hI0 hown1 hM1 hgrow1
                       have hI1x := hI1.alloc (.cells #[.slice B m d] 24)
                       obtain ⟨A1, c1, hv1⟩ := own_slice hI1.own
                       rw [hL1] at hv1
                       subst hv1
                       clear hown1 hgrow1 hat1)
                    | (refine step_app_at _ rfl _ _ 23 rfl w.heap.size 24 i0 (.slice none 0 0) 1 24 Tryz.underlying23 hi hz0 hz1 hz2 rfl (by decide) (.slice (some ⟨w2.heap.size, 0, none⟩) 0 0) 0 [] rfl hIb.own ⟨g, 0, none⟩ q cp ((vs.drop 0).take q) rfl hl1 hnb ho1 b1 b2 hIb.bel.size ?_
                       intro v1 w1 hown1 hgrow1 _ hat1
                       have hI1 := InsV.app hIb hown1 hM1 hgrow1
                       have hX1 := (hgrow1.cell hXb hneb)
                       obtain ⟨A1, c1, hv1⟩ := own_slice hI1.own
                       rw [hL1] at hv1
                       subst hv1
                       clear hown1 hgrow1 hat1)
                    | (refine step_app_at _ rfl _ _ 23 rfl w.heap.size 24 i0 (.slice none 0 0) 1 24 Tryz.underlying23 hi hz0 hz1 hz2 rfl (by decide) (.slice (some ⟨w2.heap.size + 1, 0, none⟩) 0 0) 0 [] rfl hIc.own ⟨g, 0, none⟩ q cp ((vs.drop 0).take q) rfl hl1 hnc ho1 b1 b2 hIc.bel.size ?_
                       intro v1 w1 hown1 hgrow1 _ hat1
                       have hI1 := InsV.app hIc hown1 hM1 hgrow1
                       have hX1 := (hgrow1.cell hXc hnec)
                       obtain ⟨A1, c1, hv1⟩ := own_slice hI1.own
                       rw [hL1] at hv1
                       subst hv1
                       clear hown1 hgrow1 hat1)
                    | (refine step_app_at _ rfl _ _ 23 rfl w.heap.size 24 i0 (.slice none 0 0) 1 24 Tryz.underlying23 hi hz0 hz1 hz2 rfl (by decide) _ _ _ rfl hI1x.own ⟨w1.heap.size, 0, none⟩ 1 1 [.slice B m d] rfl rfl (cell_one_new _ _ _) ho2 (by rw [hL1]; exact b4) (by rw [hL1]; exact b5) hI1x.bel.size ?_
                       intro v2 w2q hown2 hgrow2 _ hat2
                       have hI2 := InsV.app hI1x hown2 rfl hgrow2
                       obtain ⟨A2, c2, hv2⟩ := own_slice hI2.own
                       rw [hL2] at hv2
                       subst hv2
                       clear hown2 hgrow2 hat2)
                    | (refine step_app_at _ rfl _ _ 23 rfl w.heap.size 24 i0 (.slice none 0 0) 1 24 Tryz.underlying23 hi hz0 hz1 hz2 rfl (by decide) _ _ _ rfl hI1.own ⟨w2.heap.size + 1, 0, none⟩ 1 1 [.slice B m d] rfl rfl (one_atV hX1) ho2 (by rw [hL1]; exact b4) (by rw [hL1]; exact b5) hI1.bel.size ?_
                       intro v2 w2q hown2 hgrow2 _ hat2
                       have hI2 := InsV.app hI1 hown2 rfl hgrow2
                       obtain ⟨A2, c2, hv2⟩ := own_slice hI2.own
                       rw [hL2] at hv2
                       subst hv2
                       clear hown2 hgrow2 hat2)
                    | (refine step_app_at _ rfl _ _ 23 rfl w.heap.size 24 i0 (.slice none 0 0) 1 24 Tryz.underlying23 hi hz0 hz1 hz2 rfl (by decide) _ _ _ rfl hI1.own ⟨w2.heap.size, 0, none⟩ 1 1 [.slice B m d] rfl rfl (one_atV hX1) ho2 (by rw [hL1]; exact b4) (by rw [hL1]; exact b5) hI1.bel.size ?_
                       intro v2 w2q hown2 hgrow2 _ hat2
                       have hI2 := InsV.app hI1 hown2 rfl hgrow2
                       obtain ⟨A2, c2, hv2⟩ := own_slice hI2.own
                       rw [hL2] at hv2
                       subst hv2
                       clear hown2 hgrow2 hat2)
                    | (refine step_app_at _ rfl _ _ 23 rfl w.heap.size 24 i0 (.slice none 0 0) 1 24 Tryz.underlying23 hi hz0 hz1 hz2 rfl (by decide) _ _ _ rfl hI2.own AD (t - q) (cp - q) ((vs.drop q).take (t - q)) rfl hl3 (hn3 _ (HSRC.out _ hI2.bel)) ho3 (by rw [List.length_append, hL1]; exact b6) (by rw [List.length_append, hL1]; exact b7) hI2.bel.size ?_
                       intro v3 w3 hown3 hgrow3 _ hat3
                       have hI3 := InsV.app hI2 hown3 hM3 hgrow3
                       have hfin := hI3.own
                       rw [HLST.out] at hfin
                       have hfl : ((vs.take q ++ [Value.slice B m d]) ++ vs.drop q).length = t + 1 := by simp; omega
                       rw [hfl] at hfin
                       obtain ⟨A3, c3, hv3⟩ := own_slice hfin
                       subst hv3
                       clear hown3 hgrow3 hat3 hfl))
      all_goals go_simp
      all_goals go_wp2
      all_goals go_ret
      all_goals exact ⟨_, q, rfl, hq, hfin, HD.out, HKL.out, hI3.bel⟩
end

/-! spec.SemigroupOf: a list kept in order, and a queue. -/
section
open Go.RowKit

def vlen : Value → Nat
  | .slice _ n _ => n
  | _ => 0
theorem ins_get {α : Type} (l : List α) (k : Nat) (x : α) (hk : k ≤ l.length) (i : Nat) : ((l.take k ++ [x]) ++ l.drop k)[i]? = if i < k then l[i]? else if i = k then some x else l[i - 1]? := by
  have h1 : (l.take k).length = k := by rw [List.length_take]; omega
  have h2 : (l.take k ++ [x]).length = k + 1 := by simp [h1]
  by_cases a : i < k
  · rw [if_pos a, List.getElem?_append_left (by omega), List.getElem?_append_left (by omega), List.getElem?_take, if_pos a]
  · rw [if_neg a]
    by_cases b : i = k
    · rw [if_pos b, List.getElem?_append_left (by omega), List.getElem?_append_right (by omega), h1, b, Nat.sub_self]; rfl
    · rw [if_neg b, List.getElem?_append_right (by omega), h2, List.getElem?_drop]
      congr 1; omega
/-- one list more among the inner ones -/
theorem Inn.ins {w : World} {lo hi : Nat} {vs : List Value} {Ls : List (List Int)} {u : Value} {L : List Int} {k : Nat} (h : Inn w lo hi vs Ls) (hk : k ≤ vs.length) (hu : OI w lo hi u L)
    (ha : ∀ (i : Nat) (u' : Value), vs[i]? = some u' → ∀ g : Nat, u'.ownBlock = some g → u.ownBlock = some g → False) : Inn w lo hi ((vs.take k ++ [u]) ++ vs.drop k) (insAt Ls k L) := by
  have hk' : k ≤ Ls.length := by rw [← h.len]; exact hk
  refine ⟨?_, fun i x y hx hy => ?_, fun i j x x' g hij hx hx' hg hg' => ?_⟩
  · have := insAt_len (L := L) hk'
    rw [this, ← h.len]; simp; omega
  · rw [ins_get vs k u hk] at hx
    unfold insAt at hy
    rw [ins_get Ls k L hk'] at hy
    by_cases a : i < k
    · rw [if_pos a] at hx hy; exact h.own i x y hx hy
    · rw [if_neg a] at hx hy
      by_cases b : i = k
      · rw [if_pos b] at hx hy
        injection hx with hx; injection hy with hy; subst hx hy; exact hu
      · rw [if_neg b] at hx hy; exact h.own _ x y hx hy
  · rw [ins_get vs k u hk] at hx hx'
    by_cases a : i < k
    · rw [if_pos a] at hx
      by_cases a' : j < k
      · rw [if_pos a'] at hx'; exact h.apart i j x x' g hij hx hx' hg hg'
      · rw [if_neg a'] at hx'
        by_cases b' : j = k
        · rw [if_pos b'] at hx'; injection hx' with hx'; subst hx'; exact ha i x hx g hg hg'
        · rw [if_neg b'] at hx'; exact h.apart i (j - 1) x x' g (by omega) hx hx' hg hg'
    · rw [if_neg a] at hx
      by_cases b : i = k
      · rw [if_pos b] at hx; injection hx with hx; subst hx
        by_cases a' : j < k
        · rw [if_pos a'] at hx'; exact ha j x' hx' g hg' hg
        · rw [if_neg a'] at hx'
          by_cases b' : j = k
          · omega
          · rw [if_neg b'] at hx'; exact ha (j - 1) x' hx' g hg' hg
      · rw [if_neg b] at hx
        by_cases a' : j < k
        · rw [if_pos a'] at hx'; exact h.apart (i - 1) j x x' g (by omega) hx hx' hg hg'
        · rw [if_neg a'] at hx'
          by_cases b' : j = k
          · rw [if_pos b'] at hx'; injection hx' with hx'; subst hx'; exact ha (i - 1) x hx g hg hg'
          · rw [if_neg b'] at hx'; exact h.apart (i - 1) (j - 1) x x' g (by omega) hx hx' hg hg'

section
variable {w w' : World} {lo base n : Nat} {v vq : Value} {vs xs : List Value} {Ls : List (List Int)}
/-- what is kept while the queue grows -/
theorem OV.kept_q (h : OV w lo v vs Ls) (hq : Rq w base vq n xs) (hne : ∀ g, v.ownBlock = some g → vq.ownBlock ≠ some g) (hg : w.grownBy w' vq.ownBlock) : OV w' lo v vs Ls := by
  refine ⟨h.row.kept hg ?_, (h.inn.same fun i u hu g hg' => ?_).more (Nat.le_refl _) hg.size⟩
  · cases e : v.ownBlock with
    | none => exact .inl rfl
    | some g => exact .inr (fun e' => hne g e e'.symm)
  · have hl : i < vs.length := (List.getElem?_eq_some_iff.1 hu).1
    have o := h.inn.own i u _ hu (List.getElem?_eq_getElem (show i < Ls.length by rw [← h.inn.len]; exact hl))
    refine hg.block g (h.inn.lt hu hg').2.2 (fun e => ?_)
    obtain ⟨_, gq, oq, cq, cur, rfl, _, hh, _⟩ := hq
    have e2 : g = gq := by simpa [Value.ownBlock] using e
    subst e2
    exact own_blk_ne o.1 hh (by decide) hg'
theorem OV.alloc (h : OV w lo v vs Ls) (o : Obj) : OV (w.alloc o) lo v vs Ls := h.below ((Below.refl _ w).alloc (Nat.le_refl _) o)
theorem Rq.alloc (h : Rq w base v n xs) (o : Obj) : Rq (w.alloc o) base v n xs := h.below ((Below.refl _ w).alloc (Nat.le_refl _) o)
theorem Qs.alloc (h : Qs w v vs Ls) (o : Obj) : Qs (w.alloc o) v vs Ls := h.below ((Below.refl _ w).alloc (Nat.le_refl _) o)
theorem Qs.rss {A : Option Addr} {c : Nat} (h : Qs w v vs Ls) (hr : w.ownsRow base 24 1 (.slice A Ls.length c) Ls.length vs) : RSS w A Ls.length Ls := by
  refine ⟨rfl, vs, Reads.of_own hr, fun i L hL => ?_⟩
  obtain ⟨Ai, ci, h1, h2, _⟩ := h.2 i L hL
  exact ⟨Ai, ci, h1, h2⟩
/-- the queue of copies of the same rows -/
theorem Qs.other (h : Qs w v vs Ls) (hb : Below w.heap.size w w') (hl : ∀ L ∈ Ls, 0 < L.length) (hq : ∀ g, vq.ownBlock = some g → w.heap.size ≤ g) : Qs w' vq vs Ls :=
  ⟨h.1, fun i L hL => by
    obtain ⟨Ai, ci, h1, h2, _⟩ := h.2 i L hL
    refine ⟨Ai, ci, h1, h2.below hb, fun ad ha e => ?_⟩
    obtain ⟨ad', ea, hbl, _⟩ := h2.2.2 (hl L (List.mem_of_getElem? hL))
    rw [ha] at ea; injection ea with ea; subst ea
    have := hq _ e
    omega⟩
end
theorem ri_keepO {W W0 W1 : World} {A : Option Addr} {n : Nat} {zs : List Int} (hb : Below W0.heap.size W0 W1) (h : RI W A n zs) (e : W0.heap = W.heap) : RI W1 A n zs := by
  have : RI W0 A n zs := h.heap e
  exact this.below hb
theorem below_of_drewN' {W W1 : World} (h : ∃ q, W1 = W.drewN q) : Below W.heap.size W W1 := by
  obtain ⟨q, rfl⟩ := h; exact ⟨rfl, rfl, rfl, Nat.le_refl _, fun _ _ => rfl⟩
theorem qs_keep {W W0 W1 : World} {v : Value} {vs : List Value} {Ls : List (List Int)} (hb : Below W0.heap.size W0 W1) (h : Qs W v vs Ls) (e : W0.heap = W.heap) : Qs W1 v vs Ls := by
  refine ⟨h.1, fun i L hL => ?_⟩
  obtain ⟨Ai, ci, h1, h2, h3⟩ := h.2 i L hL
  exact ⟨Ai, ci, h1, ri_keepO hb h2 e, h3⟩
theorem cell_keepO {W W0 W1 : World} {p : Addr} {u : Value} (hb : Below W0.heap.size W0 W1) (h : W.cell? p = some u) (e : W0.heap = W.heap) : W1.cell? p = some u := by
  have h0 : W0.cell? p = some u := by
    have : W0.cell? p = W.cell? p := by unfold World.cell?; rw [e]
    rw [this]; exact h
  exact (hb.cell (p := p) (World.block_lt_of_cell? W0 p h0)).trans h0
theorem row_keep {W W0 W1 : World} {base size n : Nat} {e : TypeId} {v : Value} {xs : List Value} (hb : Below W0.heap.size W0 W1) (h : W.ownsRow base e size v n xs) (eh : W0.heap = W.heap) : W1.ownsRow base e size v n xs :=
  own_below (own_same h (fun g _ => by rw [eh])) hb

theorem oss_lit (w w1 : World) (h : Below w.heap.size w w1) : OSS (w1.alloc (.cells #[] 24)) w.heap.size (w1.alloc (.cells #[] 24)).heap.size (.slice (some ⟨w1.heap.size, 0, none⟩) 0 0) [] :=
  (OSS.lit0 w1).more h.size (by simp)
set_option maxHeartbeats 1000000 in
theorem specOf_no (A : Option Addr) (n c : Nat) (zs OL : List (List Int)) (OB : Bool) (hO : Ofs zs OL OB) (w : World) (h : RSS w A n zs) (hn : n ≤ 1048576) (hl : ∀ L ∈ zs, L.length ≤ 1048576) (hno : cfB zs 6 = false) :
    Calls Tryz.prog 124 #[.slice A n c] w fun e w' => ∃ v, e = .returned (.tuple #[v, .bool OB]) ∧ OSS w' w.heap.size w'.heap.size v OL ∧ Below w.heap.size w w' := by
  have HL := Lib.hid h.len
  have hch := l3Charts_any A n c zs w h hn hl
  have HF := Lib.hid (ofs_no hO (fun e => by rw [hno] at e; cases e.1))
  clear h hl
  cases hC : chB zs
  · rw [hC] at hch
    clear hC hno
    go_enter Tryz.func124, Tryz.ntmps124
    go_wp2_with fail
    refine hch.mono ?_
    rintro e w1 ⟨rfl, hq1⟩
    have hB1 : Below w.heap.size w w1 := by obtain ⟨q, rfl⟩ := hq1; exact ⟨rfl, rfl, rfl, Nat.le_refl _, fun _ _ => rfl⟩
    clear hq1 hch
    go_wp2
    go_ret2
    exact ⟨_, by rw [HF.out.2]; rfl, by rw [HF.out.1]; exact oss_lit w w1 hB1, hB1.alloc hB1.size _⟩
  · have h6 : ¬ zs.length ≤ 6 := fun h => by unfold cfB at hno; rw [hC, decide_eq_true h] at hno; cases hno
    have hd : decide ((6 : Int) < (n : Int)) = true := decide_eq_true (by have := HL.out; omega)
    have hd2 : decide ((n : Int) > 6) = true := decide_eq_true (by have := HL.out; omega)
    rw [hC] at hch
    clear hC hno
    go_enter Tryz.func124, Tryz.ntmps124
    go_wp2_with fail
    refine hch.mono ?_
    rintro e w1 ⟨rfl, hq1⟩
    have hB1 : Below w.heap.size w w1 := by obtain ⟨q, rfl⟩ := hq1; exact ⟨rfl, rfl, rfl, Nat.le_refl _, fun _ _ => rfl⟩
    clear hq1 hch
    go_wp2
    go_ret2
    exact ⟨_, by rw [HF.out.2]; rfl, by rw [HF.out.1]; exact oss_lit w w1 hB1, hB1.alloc hB1.size _⟩
theorem cellArr (w : World) (c : Array Value) (t : TypeId) : ∀ j u, c.toList[j]? = some u → (w.alloc (.cells c t)).cell? ((⟨w.heap.size, 0, none⟩ : Addr).add j) = some u := fun j u hu => by
  rw [Addr.add_mid, Nat.zero_add, World.cell?_alloc_new]
  simpa using hu
/-- a chart and itself turned, behind the others -/
theorem by_step {W w' : World} {g cc ci c1 : Nat} {aL : Addr} {A1 : Option Addr} {vs : List Value} {Bs : List (List Int)} {L : List Int} {v' : Value} (hQ : Qs W (.slice (some ⟨g, 0, none⟩) Bs.length cc) vs Bs) (hl : ∀ M ∈ Bs ++ [L, tuL L], 0 < M.length)
    (hr : RI W (some aL) L.length L) (hne : g ≠ aL.block) (ht : RI W A1 (tuL L).length (tuL L)) (hne1 : ∀ a, A1 = some a → g ≠ a.block) (o : Obj) (hg : (W.alloc o).grownBy w' (some g)) (hat : v'.ownBlock = some g ∨ v'.ownBlock = some (W.alloc o).heap.size) :
    Qs w' v' (vs ++ [.slice (some aL) L.length ci, .slice A1 (tuL L).length c1]) (Bs ++ [L, tuL L]) := by
  have h1 := (hQ.snoc (ci := ci) hr (fun ad e => by injection e with e; subst e; simp only [Value.ownBlock]; intro e'; injection e' with e'; exact hne e')).snoc (ci := c1) ht (fun ad e => by simp only [Value.ownBlock]; intro e'; injection e' with e'; exact hne1 ad e e')
  have h2 := (h1.alloc o).grown (v' := v') (w' := w') (by intro M hM; exact hl M (by simpa using hM)) hg (hat.imp id (fun e x hx => by rw [e] at hx; injection hx with hx; omega))
  simpa using h2
set_option maxHeartbeats 8000000 in
theorem specOf_yes (A : Option Addr) (n c : Nat) (zs OL : List (List Int)) (OB : Bool) (hO : Ofs zs OL OB) (w : World) (h : RSS w A n zs) (hcf : cfB zs 6 = true) :
    Calls Tryz.prog 124 #[.slice A n c] w fun e w' => ∃ v, e = .returned (.tuple #[v, .bool OB]) ∧ OSS w' w.heap.size w'.heap.size v OL ∧ Below w.heap.size w w' := by
  obtain ⟨i0, hi, hz0, hz1, hz2⟩ := info_parts info_int
  obtain ⟨i1, hj, hj0, hj1, hj2⟩ := info_parts info_ints
  have hzz : 1 ≤ zs.length ∧ zs.length ≤ 6 ∧ ∀ L ∈ zs, isC L = true ∧ L.length = (ent zs 0).length := by
    have hc := hcf
    unfold cfB at hc
    rw [Bool.and_eq_true, decide_eq_true_eq, chB_iff] at hc
    exact ⟨hc.1.1, hc.2, hc.1.2⟩
  have hcB : chB zs = true := by have hc := hcf; unfold cfB at hc; rw [Bool.and_eq_true] at hc; exact hc.1
  generalize (ent zs 0).length = m at hzz
  obtain ⟨hz1', hz6, hzc⟩ := hzz
  have HZ := Lib.hid hzc
  have HL := Lib.hid h.len
  have HR := Lib.hid h
  have HO := Lib.hid hO
  have HCF := Lib.hid hcf
  have HFZ : Hid (∀ L ∈ facs zs, isC L = true ∧ L.length = m) := facs_ch hzc
  have HBL : Hid (∀ (k : Nat) (L : List Int), L ∈ byL (zs.take k) → 0 < L.length) := fun k L hL => by
    have h1 : L ∈ facs (zs.take k) := byL_mem.1 hL
    have := facs_ch (m := m) (fun L hL => hzc L (List.mem_of_mem_take hL)) L h1
    exact (isC_len this.1).1
  have hch := l3Charts_any A n c zs w h (by have := h.len; omega) (fun L hL => by have := (isC_len (hzc L hL).1).2; omega)
  rw [hcB] at hch
  have hn6 : n ≤ 6 := by have := h.len; omega
  have hn1 : 1 ≤ n := by have := h.len; omega
  have hd : decide ((6 : Int) < (n : Int)) = false := decide_eq_false (by omega)
  have hd2 : decide ((n : Int) > 6) = false := decide_eq_false (by omega)
  clear h hcf hcB hO hzc hz1' hz6
  go_enter Tryz.func124, Tryz.ntmps124
  go_wp2_with fail
  refine hch.mono ?_
  rintro e w1 ⟨rfl, hq1⟩
  have hB1 : Below w.heap.size w w1 := by obtain ⟨q, rfl⟩ := hq1; exact ⟨rfl, rfl, rfl, Nat.le_refl _, fun _ _ => rfl⟩
  clear hq1 hch
  go_wp2
  go_loopw [4, 5] (fun v i wr => ∃ (k g cc : Nat) (vs : List Value), k ≤ n ∧ i = .int .i64 (k : Int) ∧ v = .slice (some ⟨g, 0, none⟩) (byL (zs.take k)).length cc ∧ wr.ownsRow w.heap.size 24 1 v (byL (zs.take k)).length vs ∧ Qs wr v vs (byL (zs.take k)) ∧ Below w.heap.size w wr) (fun _ i _ => n - (intOf i).toNat)
  case atStart => exact ⟨0, _, _, [], Nat.zero_le _, rfl, rfl, own_base (World.ownsRow_lit (base := w1.heap.size) (e := 24) (size := 1) w1 #[] 0 (Nat.le_refl _) (by simp [maxLen]) rfl) hB1.size, ⟨rfl, fun i L h => by cases h⟩, hB1.alloc hB1.size _⟩
  case round =>
    clear hB1
    obtain ⟨k, g, cc, vs, hk, rfl, rfl, hown, hQ, hB⟩ := hrel
    by_cases hlt : k < n
    · have hkl : k < zs.length := by have := HL.out; omega
      obtain ⟨L, hL⟩ : ∃ L, zs[k]? = some L := ⟨_, List.getElem?_eq_getElem hkl⟩
      obtain ⟨ad, Ai, ci, rfl, hab, hc0, hri0⟩ := HR.out.at_ hlt
      rw [hL, Option.getD_some] at hc0 hri0
      have hLz := HZ.out L (List.mem_of_getElem? hL)
      have h6 := isC_len hLz.1
      obtain ⟨aL, rfl, haL, _⟩ := hri0.2.2 (by omega)
      have hri := hri0.below hB
      have hcc := (hB.cell (p := ad.add k) (by rw [block_of_add]; exact hab)).trans hc0
      have HT : Hid (byL (zs.take (k + 1)) = byL (zs.take k) ++ [L, tuL L]) := byL_take hL
      have HLN : Hid (∀ M ∈ byL (zs.take k) ++ [L, tuL L], 0 < M.length) := fun M hM => HBL.out (k + 1) M (by rw [HT.out]; exact hM)
      have hBl : (byL (zs.take k)).length ≤ 12 := by rw [byL_len, List.length_take]; omega
      have hgl := hown.lt g rfl
      have hs := hB.size
      have HLZ := Lib.hid hLz
      clear hLz
      generalize byL (zs.take k) = Bs at *
      have p1 : Bs.length + 2 ≤ maxLen := by unfold maxLen; omega
      have p2 : (Bs.length + 2) * 24 ≤ 140737488355328 := by omega
      have hS := Below.refl wr.heap.size wr
      have hra := hown
      have hQq := hQ
      have tok1 : True := trivial
      clear hkl hL hri0 hc0 hown hQ
      go_wp2_with fail
      go_region_held3 (fun w' => w'.cell? (ad.add k) = some (.slice (some aL) L.length ci))
        (first | assumption | go_keep)
        (first
          | (go_at_call 91
             have _t := tok1
             with_reducible refine (l1Tu_any (some aL) L.length ci L _ ?_ HLZ.out.1).mono ?_
             · exact hri.heap rfl
             rintro e w1x ⟨v1, rfl, hN1, hbx⟩
             have hcc := cell_keepO hbx hcc rfl
             have hra := row_keep hbx hra rfl
             have hQq := qs_keep hbx hQq rfl
             have hri1 := ri_keepO hbx hri rfl
             have hS := bel_keep hbx hS rfl rfl rfl rfl hS.size
             obtain ⟨A1, c1, rfl⟩ := own_slice hN1
             have hone2 : ∀ u ∈ [Value.slice (some aL) L.length ci, .slice A1 (tuL L).length c1], u.oneCell' = true := by intro u hu; simp only [List.mem_cons, List.not_mem_nil, or_false] at hu; rcases hu with rfl | rfl <;> rfl
             have hsz1 : w.heap.size ≤ (w1x.alloc (.cells #[.slice (some aL) L.length ci, .slice A1 (tuL L).length c1] 24)).heap.size := by have := hS.size; simp; omega
             clear tok1 _t hbx)
          | (refine step_app_at _ rfl _ _ 23 rfl w.heap.size 24 i1 (.slice none 0 0) 1 24 Tryz.underlying23 hj hj0 hj1 hj2 rfl (by decide) (.slice (some ⟨g, 0, none⟩) Bs.length cc) Bs.length vs rfl (hra.alloc _) ⟨w1x.heap.size, 0, none⟩ 2 2 [.slice (some aL) L.length ci, .slice A1 (tuL L).length c1] rfl rfl (cellArr w1x _ _) hone2 p1 p2 hsz1 ?_
             intro v' w' hown' hgrow _ hat
             obtain ⟨gq, cq, hvq, hgq⟩ := hown'.form (by omega)
             subst hvq
             have hcc := hgrow.cell ((World.cell?_alloc_lt w1x (.cells #[.slice (some aL) L.length ci, .slice A1 (tuL L).length c1] 24) (ad.add k) (World.block_lt_of_cell? _ _ hcc)).trans hcc) (by rw [block_of_add]; simp only [Value.ownBlock]; intro e; injection e with e; omega)
             have HG := Lib.hid hgrow
             have HA := Lib.hid hat))
      all_goals
        have hgb : ∀ x, (.slice (some ⟨g, 0, none⟩) Bs.length cc : Value).ownBlock = some x → w.heap.size ≤ x := fun x e => (hra.lt x e).1
        have hsx := hS.size
        have hQ3 := by_step (v' := .slice (some ⟨gq, 0, none⟩) (Bs.length + 2) cq) (ci := ci) (c1 := c1) hQq HLN.out hri1 (by omega) (RI.of_own hN1) (fun a e => by subst e; have := (hN1.lt a.block rfl).1; simp at this; omega) _ HG.out HA.out
        have hB4 := ((hB.trans (hS.mono hs)).alloc (show w.heap.size ≤ w1x.heap.size by omega) (.cells #[.slice (some aL) L.length ci, .slice A1 (tuL L).length c1] 24)).grown HG.out (by simp; omega) (fun x e => hgb x e)
        have HLN2 : Hid ((Bs ++ [L, tuL L]).length = Bs.length + 2) := by show _ = _; simp
        go_wp2
        go_roundw
        case rel => exact ⟨k + 1, gq, cq, _, by omega, by go_num, by rw [HT.out, HLN2.out], by rw [HT.out, HLN2.out]; exact hown', by rw [HT.out]; exact hQ3, hB4⟩
        case measure => simp [intOf]; omega
    · obtain rfl : k = n := by omega
      have HT : Hid (zs.take k = zs) := List.take_of_length_le (by rw [HL.out]; exact Nat.le_refl _)
      have HBL2 := Lib.hid (HBL.out k)
      rw [HT.out] at hown hQ HBL2
      have hBl : (byL zs).length ≤ 12 := by rw [byL_len]; have := HL.out; omega
      have HBE : Hid ((byL zs).length = 2 * k) := by show _ = _; rw [byL_len, HL.out]
      have hRb := hQ.rss hown
      have hgl := hown.lt g rfl
      have hBs : ∀ L ∈ byL zs, 0 < L.length := HBL2.out
      rw [HT.out]
      clear HBL
      generalize hB0 : (byL zs).length = nb at *
      have hW0 := hB.size
      have hE0 : ((wr.alloc (.cells #[] 24)).alloc (.cells #[] 24)).ownsRow (wr.heap.size + 1) 24 1 (.slice (some ⟨wr.heap.size + 1, 0, none⟩) 0 0) 0 [] := by
        have := World.ownsRow_lit (base := (wr.alloc (.cells #[] 24)).heap.size) (e := 24) (size := 1) (wr.alloc (.cells #[] 24)) #[] 0 (Nat.le_refl _) (by simp [maxLen]) rfl
        rwa [World.size_alloc] at this
      have hcl : ∀ j u, vs[j]? = some u → ((wr.alloc (.cells #[] 24)).alloc (.cells #[] 24)).cell? ((⟨g, 0, none⟩ : Addr).add j) = some u := ((hown.alloc _).alloc _).cells rfl
      have hvl : vs.length = nb * 1 := hown.1
      have hO0 : (wr.alloc (.cells #[] 24)).ownsRow wr.heap.size 24 1 (.slice (some ⟨wr.heap.size, 0, none⟩) 0 0) 0 [] := World.ownsRow_lit (base := wr.heap.size) (e := 24) (size := 1) wr #[] 0 (Nat.le_refl _) (by simp [maxLen]) rfl
      have q1 : 0 + nb ≤ maxLen := by unfold maxLen; omega
      have q2 : (0 + nb) * 24 ≤ 140737488355328 := by omega
      have q3 : wr.heap.size + 1 ≤ ((wr.alloc (.cells #[] 24)).alloc (.cells #[] 24)).heap.size := by simp
      go_wp2_with (first | (at_builtin
                            refine wpList_append_own_at _ rfl _ _ 23 rfl (wr.heap.size + 1) 24 i1 (.slice none 0 0) 1 24 Tryz.underlying23 hj hj0 hj1 hj2 rfl (by decide) (.slice (some ⟨wr.heap.size + 1, 0, none⟩) 0 0) 0 [] rfl hE0 ⟨g, 0, none⟩ nb cc vs rfl hvl hcl hQ.one q1 q2 q3 ?_
                            intro vq wq hown' hgrow _ hat) | go_in)
      rw [Nat.zero_add, List.nil_append] at hown'
      have hBa : Below wr.heap.size wr ((wr.alloc (.cells #[] 24)).alloc (.cells #[] 24)) := ((Below.refl _ wr).alloc (Nat.le_refl _) _).alloc (by simp) _
      have hBq : Below wr.heap.size wr wq := hBa.grown hgrow (by simp; omega) (fun x e => by have := (hE0.lt x e).1; omega)
      have hnb : 0 < nb := by have := HBE.out; omega
      obtain ⟨gq, cq, hvq, hgq, _⟩ := hown'.form hnb
      subst hvq
      have hov : OV wq wr.heap.size (.slice (some ⟨wr.heap.size, 0, none⟩) 0 0) [] [] := ⟨(hO0.alloc _).kept hgrow (.inr (by simp [Value.ownBlock])), Inn.nil⟩
      have hrq : Rq wq wr.heap.size (.slice (some ⟨gq, 0, none⟩) nb cq) (byL zs).length vs := by rw [hB0]; exact Rq.of_own (own_base hown' (by omega)) (by simp)
      have hqs : Qs wq (.slice (some ⟨gq, 0, none⟩) nb cq) vs (byL zs) := Qs.other hQ (hBq) hBs (fun x e => by simp [Value.ownBlock] at e; omega)
      have hHR := Lib.hid hRb
      have hHB := Lib.hid hB
      have hHW := Lib.hid hW0
      have HBS := Lib.hid hBs
      have hbf : Hid (Bfs zs [] (byL zs)) := bfs_start zs
      have hne0 : ∀ x, (.slice (some ⟨wr.heap.size, 0, none⟩) 0 0 : Value).ownBlock = some x → (.slice (some ⟨gq, 0, none⟩) nb cq : Value).ownBlock ≠ some x := fun x e e' => by simp [Value.ownBlock] at e e'; omega
      have hgl2 := hgl.2
      have hql : (byL zs).length ≤ 12 + 12 * 0 := by omega
      clear hE0 hcl hvl hO0 q1 q2 q3 hBa hgrow hat hown' hQ hown hRb hB hW0 hBs
      generalize hWB : wr = wb at *
      go_loopw [6, 7] (fun vo vq W => ∃ (go co : Nat) (vso vsq : List Value) (out q : List (List Int)), vo = .slice (some ⟨go, 0, none⟩) out.length co ∧ OV W wb.heap.size vo vso out ∧ Rq W wb.heap.size vq q.length vsq ∧ Qs W vq vsq q ∧ (∀ x, vo.ownBlock = some x → vq.ownBlock ≠ some x) ∧ Hid (Bfs zs out q) ∧ out.length ≤ 400 ∧ q.length ≤ 12 + 12 * out.length ∧ Below wb.heap.size wb W) (fun vo vq _ => (401 - vlen vo) * 13 + vlen vq)
      case atStart => exact ⟨_, _, [], vs, [], byL zs, rfl, hov, hrq, hqs, hne0, hbf, by simp, hql, hBq⟩
      case round =>
        clear hov hrq hqs hne0 hbf hql hBq
        obtain ⟨go, co, vso, vsq, out, q, rfl, hov, hrq, hqs, hne, HBF, ho4, hql, hBW⟩ := hrel
        have HBW := Lib.hid (hHB.out.trans (hBW.mono hHW.out))
        obtain ⟨g2, o2, c2, rfl, hg2, hg2l, hn2, hcq⟩ := hrq.form
        cases q with
        | nil =>
          have HF := Lib.hid (ofs_yes HO.out HCF.out (bfs_end HBF.out ho4))
          have HOS := Lib.hid (hov.oss.more hHW.out (Nat.le_refl _))
          clear hrq hqs hcq hne hov
          go_wp2
          go_ret2
          exact ⟨_, by rw [HF.out.2]; rfl, by rw [HF.out.1]; exact HOS.out, HBW.out⟩
        | cons f q =>
          obtain ⟨Ai, ci, hu0, hrf, hnf⟩ := hqs.2 0 f rfl
          obtain ⟨u, vsq, rfl⟩ : ∃ u r, vsq = u :: r := by cases vsq with
            | nil => simp at hu0
            | cons u r => exact ⟨u, r, rfl⟩
          have hu1 : u = .slice Ai f.length ci := by simpa using hu0
          subst hu1
          have hfc := bfs_ch HBF.out HZ.out f (.inr (by simp))
          have h6 := isC_len hfc.1
          obtain ⟨aF, rfl, haF, hcF⟩ := hrf.2.2 (show 0 < f.length by omega)
          have hqc := hcq 0 _ rfl
          rw [Addr.add_mid, Nat.add_zero] at hqc
          obtain ⟨o3, hif, hrq3⟩ := Rq.pop hrq
          have hRo : RSS wr (some ⟨go, 0, none⟩) out.length out := (RSS.of_own hov.oss).2
          have hfd := l3Find_any (some ⟨go, 0, none⟩) (some aF) out.length f.length co ci out f wr hRo hrf (by omega) (fun L hL => by have := (isC_len (bfs_ch HBF.out HZ.out L (.inl hL)).1).2; omega)
          have HFM : Hid (0 ≤ fndI out f ↔ f ∈ out) := fndI_iff HBF.out.srt
          have HQQ := Lib.hid hqs
          have HOV := Lib.hid hov
          have HRQ := Lib.hid hrq3
          have HRF := Lib.hid hrf
          have HNE := Lib.hid hne
          have hqn : q.length + 1 ≤ 12 + 12 * out.length := hql
          have hqn2 : q.length + 1 ≤ c2 := hn2
          rw [show (f :: q).length = q.length + 1 from rfl]
          have HFC := Lib.hid hfc
          have HNF := Lib.hid hnf
          clear hqs hov hrq3 hrf hu0 hcq hrq hRo hql hn2 hnf hne hfc
          generalize hfn : fndI out f = r at *
          go_wp2_with fail
          refine hfd.mono ?_
          rintro e W1 ⟨rfl, hq1⟩
          have hbW := below_of_drewN' hq1
          have hBW1 := hBW.trans (hbW.mono hBW.size)
          have hov := HOV.out.below hbW
          have hrq := HRQ.out.below hbW
          have hqs := HQQ.out.below hbW
          by_cases hr : 0 ≤ r
          · have hd0 : decide ((0 : Int) ≤ r) = true := decide_eq_true hr
            have hd1 : decide (r ≥ (0 : Int)) = true := decide_eq_true hr
            have HB2 := Lib.hid (bfs_skip HBF.out (HFM.out.1 hr))
            clear hfd hqc hif
            go_wp2
            go_roundw
            case rel => exact ⟨go, co, vso, vsq, out, q, rfl, hov, hrq, hqs.tail.val rfl, HNE.out, HB2, ho4, by omega, hBW1⟩
            case measure => simp only [vlen]; omega
          · have hd0 : decide ((0 : Int) ≤ r) = false := decide_eq_false hr
            have hd1 : decide (r ≥ (0 : Int)) = false := decide_eq_false hr
            have hL0 := own_lit0 W1
            have hrf1 := HRF.out.below hbW
            have haF1 : aF.block < W1.heap.size := by have := hbW.size; omega
            obtain ⟨_, hEq, _, hcF1⟩ := hrf1.2.2 (show 0 < f.length by omega)
            injection hEq with hEq
            subst hEq
            have hc1 : ∀ j u, (ivs f)[j]? = some u → (W1.alloc (.cells #[] 3)).cell? (aF.add j) = some u := fun j u hu => (World.cell?_alloc_lt _ _ _ (by rw [block_of_add]; exact haF1)).trans (hcF1 j u hu)
            have hone : ∀ u ∈ ivs f, u.oneCell' = true := fun u hu => by
              simp only [ivs, List.mem_map] at hu
              obtain ⟨z, _, rfl⟩ := hu
              rfl
            have q1 : 0 + f.length ≤ maxLen := by unfold maxLen; omega
            have q2 : (0 + f.length) * 8 ≤ 140737488355328 := by omega
            have q3 : W1.heap.size ≤ (W1.alloc (.cells #[] 3)).heap.size := by simp
            have hlf : (ivs f).length = f.length * 1 := by simp [ivs]
            have h6f := h6.1
            clear hfd hqc hif hcF hcF1
            go_wp2_with (at_builtin
                         refine wpList_append_own _ rfl _ _ 24 rfl W1.heap.size 3 i0 (.int .i64 0) 1 8 Tryz.underlying24 hi hz0 hz1 hz2 rfl (by decide) (.slice (some ⟨W1.heap.size, 0, none⟩) 0 0) 0 [] rfl hL0 aF f.length ci (ivs f) rfl hlf hc1 hone q1 q2 q3 ?_
                         intro v1 W2 hown1 hgrow1 _
                         have hb2 : Below W1.heap.size W1 W2 := ((Below.refl _ W1).alloc (Nat.le_refl _) _).grown hgrow1 q3 (fun k e => (hL0.lt k e).1)
                         have hown2 : W2.ownsRow W1.heap.size 3 1 v1 f.length (ivs f) := by simpa [ivs] using hown1
                         obtain ⟨gf, cf, rfl, hgf, hgfl⟩ := hown2.form h6f
                         have hov2 := hov.below hb2
                         have hri2 := RI.of_own hown2)
            refine (l3Put_any go out.length co wb.heap.size (some ⟨gf, 0, none⟩) f.length cf vso out f W2 hov2 hri2 (by omega) (fun L hL => by have := (isC_len (bfs_ch HBF.out HZ.out L (.inl hL)).1).2; omega) (by omega) (by omega)).mono ?_
            rintro e W3 ⟨v3, kk, rfl, hkk, hrow3, hdr, hla, hb3⟩
            obtain ⟨gn, cn, rfl, hgn, hgnl⟩ := hrow3.form (by omega)
            have hvl3 : vso.length = out.length := by have := hov2.row.1; omega
            have hs1 := hbW.size
            have hs2 := hb2.size
            have hs3 := hb3.size
            have hwl : wb.heap.size ≤ wr.heap.size := hBW.size
            have hNF : f ∉ out := fun h => absurd (HFM.out.2 h) (by omega)
            have HSR : Hid (Srt (insAt out kk f)) := srt_ins HBF.out.srt hNF hdr hla hkk
            have HLI : Hid ((insAt out kk f).length = out.length + 1) := insAt_len hkk
            have HIN := (hov2.inn.below hb3).more (Nat.le_refl wb.heap.size) hs3
            have hOI : OI W3 wb.heap.size W3.heap.size (.slice (some ⟨gf, 0, none⟩) f.length cf) f := (((OI.of hown2).below hb3).less (by omega)).more hs3
            have hin3 := HIN.ins (L := f) (k := kk) (by omega) hOI (fun i u' hu g' e1 e2 => by
              have h1 := (hov2.inn.lt hu e1)
              have h1' := (hov.inn.lt hu e1)
              have h2 := hown2.lt g' e2
              omega)
            have hov3 : OV W3 wb.heap.size (.slice (some ⟨gn, 0, none⟩) (out.length + 1) cn) ((vso.take kk ++ [.slice (some ⟨gf, 0, none⟩) f.length cf]) ++ vso.drop kk) (insAt out kk f) := ⟨by rw [HLI.out]; exact own_base hrow3 (by omega), hin3⟩
            have hb13 : Below W1.heap.size W1 W3 := hb2.trans (hb3.mono hs2)
            have hrq3 := hrq.below hb13
            have hqs3 := hqs.below hb13
            have hBW3 := hBW1.trans (hb13.mono hBW1.size)
            have hne3 : ∀ x, (.slice (some ⟨gn, 0, none⟩) (out.length + 1) cn : Value).ownBlock = some x → (.slice (some ⟨g2, o3, none⟩) q.length (c2 - 1) : Value).ownBlock ≠ some x := fun x e e' => by
              simp only [Value.ownBlock] at e e'
              injection e with e; injection e' with e'
              omega
            have HMM : Hid (∀ L, L ∈ insAt out kk f ↔ L = f ∨ L ∈ out) := fun L => insAt_mem
            have HBW3 := Lib.hid (hHB.out.trans (hBW3.mono hHW.out))
            clear HIN hOI hin3 hrow3 hdr hla hb3 hb2 hov2 hri2 hown2 hov hrq hqs hb13 hNF hown1 hgrow1 hL0 hrf1 hc1 hone hd0 hd1 hBW1 hBW hvl3
            by_cases h4 : 400 < out.length + 1
            · have hd2 : decide ((400 : Int) < ((out.length : Int) + 1)) = true := decide_eq_true (by omega)
              have hd3 : decide (((out.length : Int) + 1) > (400 : Int)) = true := decide_eq_true (by omega)
              have hd4 : decide ((400 : Int) < ((out.length + 1 : Nat) : Int)) = true := decide_eq_true (by omega)
              have HF := Lib.hid (ofs_no HO.out (fun h => bfs_over HBF.out HSR.out HMM.out (by rw [HLI.out]; exact h4) h.2))
              have hBl := HBW3.out.alloc HBW3.out.size (.cells #[] 24)
              clear hov3 hrq3 hqs3 hBW3
              go_wp2
              go_ret2
              exact ⟨_, by rw [HF.out.2]; rfl, by rw [HF.out.1]; exact oss_lit w W3 HBW3.out, hBl⟩
            · have hd2 : decide ((400 : Int) < ((out.length : Int) + 1)) = false := decide_eq_false (by omega)
              have hd3 : decide (((out.length : Int) + 1) > (400 : Int)) = false := decide_eq_false (by omega)
              have hd4 : decide ((400 : Int) < ((out.length + 1 : Nat) : Int)) = false := decide_eq_false (by omega)
              have HQC : Hid (∀ t, ∀ L ∈ f :: (q ++ proT zs f t), 0 < L.length) := fun t L hL => by
                have hcc : isC L = true ∧ L.length = m := by
                  rcases List.mem_cons.1 hL with e | hL
                  · rw [e]; exact HFC.out
                  · rcases List.mem_append.1 hL with hL | hL
                    · exact bfs_ch HBF.out HZ.out L (.inr (List.mem_cons_of_mem f hL))
                    · obtain ⟨d, hd, rfl⟩ := List.mem_map.1 hL
                      exact nxR_ch HZ.out f HFC.out _ ⟨d, byL_mem.1 (List.mem_of_mem_take hd), rfl⟩
                exact (isC_len hcc.1).1
              have HQ0 : Hid (q ++ proT zs f 0 = q) := by show _ = _; simp [proT]
              have HFQ := Lib.hid hqs3
              have hg2n : gn ≠ g2 := fun e => hne3 gn rfl (by rw [e]; rfl)
              generalize ((vso.take kk ++ [Value.slice (some ⟨gf, 0, none⟩) f.length cf]) ++ vso.drop kk) = vs3 at hov3
              clear hne3
              go_wp2
              clear hd2 hd3 hd4 hqs3
              go_loopw [7, 9] (fun vq iv W => ∃ (t g5 o5 c5 : Nat) (vs5 : List Value), t ≤ nb ∧ iv = .int .i64 (t : Int) ∧ vq = .slice (some ⟨g5, o5, none⟩) (q ++ proT zs f t).length c5 ∧ OV W wb.heap.size (.slice (some ⟨gn, 0, none⟩) (out.length + 1) cn) vs3 (insAt out kk f) ∧ Rq W wb.heap.size vq (q ++ proT zs f t).length vs5 ∧ Qs W vq (.slice (some aF) f.length ci :: vs5) (f :: (q ++ proT zs f t)) ∧ gn ≠ g5 ∧ Below wb.heap.size wb W) (fun _ iv _ => nb - (intOf iv).toNat)
              case atStart => exact ⟨0, g2, o3, c2 - 1, vsq, Nat.zero_le _, rfl, by rw [HQ0.out], hov3, by rw [HQ0.out]; exact hrq3, by rw [HQ0.out]; exact HFQ.out.val rfl, hg2n, hBW3⟩
              case round =>
                clear hov3 hrq3 hg2n hBW3 HFQ
                obtain ⟨t, g5, o5, c5, vs5, ht, rfl, rfl, hov, hrq, hqs, hne5, hBW⟩ := hrel
                have hpl : (q ++ proT zs f t).length ≤ q.length + t := by rw [List.length_append]; have := proT_len (zs := zs) (f := f) (k := t); omega
                by_cases hlt : t < nb
                · obtain ⟨M, hM⟩ : ∃ M, (byL zs)[t]? = some M := ⟨_, List.getElem?_eq_getElem (by omega)⟩
                  have hMz := HFZ.out M (byL_mem.1 (List.mem_of_getElem? hM))
                  obtain ⟨ad, Am, cm, hA, _, hcm, hrM⟩ := (hHR.out.below hBW).at_ hlt
                  injection hA with hA
                  subst hA
                  have hlm : M.length = f.length := hMz.2.trans HFC.out.2.symm
                  rw [hM, Option.getD_some, hlm] at hcm hrM
                  rw [Addr.add_mid, Nat.zero_add] at hcm
                  obtain ⟨Af, cf2, hfe, hrf, _⟩ := hqs.2 0 f rfl
                  have hfe2 : Value.slice (some aF) f.length ci = .slice Af f.length cf2 := by simpa using hfe
                  injection hfe2 with hf1 _ hf3
                  subst hf1 hf3
                  have hcall := l1Ti_any (some aF) Am f.length ci cm f M wr hrf hrM (isP_of HFC.out.1 hMz.1 hlm.symm)
                  have hisP := isP_of HFC.out.1 hMz.1 hlm.symm
                  have hTl : 0 < (tiL f M).length := by rw [tiL_len hisP]; exact h6.1
                  have HT : Hid (q ++ proT zs f (t + 1) = (q ++ proT zs f t) ++ [tiL f M]) := by show _ = _; rw [proT_succ hM, List.append_assoc]
                  have HLL : Hid (∀ L ∈ (f :: (q ++ proT zs f t)) ++ [tiL f M], 0 < L.length) := fun L hL => HQC.out (t + 1) L (by rw [HT.out, ← List.cons_append]; exact hL)
                  have HMM2 := Lib.hid hMz
                  have hs := hBW.size
                  clear hM hMz hrM hrf hisP hlm hfe
                  generalize q ++ proT zs f t = Q5 at *
                  have p1 : Q5.length + 1 ≤ maxLen := by unfold maxLen; omega
                  have p2 : (Q5.length + 1) * 24 ≤ 140737488355328 := by omega
                  go_wp2_with fail
                  refine hcall.mono ?_
                  rintro e W1 ⟨v1, rfl, hN1, hb1⟩
                  obtain ⟨g6, c6, rfl, hg6, _⟩ := hN1.form (by omega)
                  have hs1 := hb1.size
                  have hov1 := (hov.below hb1).alloc (.cells #[.slice (some ⟨g6, 0, none⟩) (tiL f M).length c6] 24)
                  have hrq1 := (hrq.below hb1).alloc (.cells #[.slice (some ⟨g6, 0, none⟩) (tiL f M).length c6] 24)
                  have hg5 := hrq.lt g5 rfl
                  have hqs1 := ((hqs.below hb1).snoc (ci := c6) (RI.of_own hN1) (fun ad e => by injection e with e; subst e; simp only [Value.ownBlock]; intro e'; injection e' with e'; omega)).alloc (.cells #[.slice (some ⟨g6, 0, none⟩) (tiL f M).length c6] 24)
                  have hB1 := (hBW.trans (hb1.mono hs)).alloc (by omega) (.cells #[.slice (some ⟨g6, 0, none⟩) (tiL f M).length c6] 24)
                  have hgs := hg5.1
                  have hbs : wb.heap.size ≤ (W1.alloc (.cells #[.slice (some ⟨g6, 0, none⟩) (tiL f M).length c6] 24)).heap.size := by simp; omega
                  have hone3 : ∀ u ∈ [Value.slice (some ⟨g6, 0, none⟩) (tiL f M).length c6], u.oneCell' = true := by intro u hu; rw [List.mem_singleton.1 hu]; rfl
                  clear hcall hcm hov hrq hqs hBW
                  go_wp2_with (at_builtin
                               refine wpList_append_q _ rfl _ _ 23 rfl wb.heap.size i1 (.slice none 0 0) 24 Tryz.underlying23 hj hj0 hj1 hj2 rfl (.slice (some ⟨g5, o5, none⟩) Q5.length c5) Q5.length vs5 rfl hrq1 ⟨W1.heap.size, 0, none⟩ 1 1 [.slice (some ⟨g6, 0, none⟩) (tiL f M).length c6] rfl rfl (cell_one_new _ _ _) hone3 (by decide) p1 p2 hbs ?_
                               intro v7 W7 hrq7 hgr7 hat7)
                  obtain ⟨g7, o7, c7', hv7, hg7, _⟩ := hrq7.form
                  subst hv7
                  have hov7 := hov1.kept_q hrq1 (fun x e e' => by simp only [Value.ownBlock] at e e'; injection e with e; injection e' with e'; omega) hgr7
                  have hqs7 := hqs1.grown HLL.out hgr7 hat7
                  have hB7 := hB1.grown hgr7 (by simp; omega) (fun x e => by simp only [Value.ownBlock] at e; injection e with e; omega)
                  have hne7 : gn ≠ g7 := fun e => by
                    rcases hat7 with h7 | h7
                    · simp only [Value.ownBlock] at h7; injection h7 with h7; omega
                    · have := h7 g7 rfl; simp at this
                      have := (hov1.row.lt gn rfl).2
                      simp at this; omega
                  have HQL : Hid ((Q5 ++ [tiL f M]).length = Q5.length + 1) := by show _ = _; simp
                  clear hov1 hrq1 hqs1 hB1 hgr7 hat7
                  go_wp2
                  go_roundw
                  case rel => exact ⟨t + 1, g7, o7, c7', _, by omega, by go_num, by rw [HT.out, HQL.out], hov7, by rw [HT.out, HQL.out]; exact hrq7, by rw [HT.out]; exact hqs7, hne7, hB7⟩
                  case measure => simp [intOf]; omega
                · obtain rfl : t = nb := by omega
                  have HBN := Lib.hid (bfs_put HBF.out HSR.out HMM.out (k := t) (by rw [hB0]; exact Nat.le_refl _))
                  have hol : (insAt out kk f).length ≤ 400 := by rw [HLI.out]; omega
                  have hqb : (q ++ proT zs f t).length ≤ 12 + 12 * (insAt out kk f).length := by rw [HLI.out]; omega
                  go_wp2
                  go_roundw
                  case rel => exact ⟨gn, cn, vs3, vs5, insAt out kk f, q ++ proT zs f t, by rw [HLI.out], hov, hrq, hqs.tail, (fun x e e' => by simp only [Value.ownBlock] at e e'; injection e with e; injection e' with e'; omega), HBN, hol, hqb, hBW⟩
                  case measure => simp only [vlen]; omega
theorem specOf_any (A : Option Addr) (n c : Nat) (zs OL : List (List Int)) (OB : Bool) (hO : Ofs zs OL OB) (w : World) (h : RSS w A n zs) (hn : n ≤ 1048576) (hl : ∀ L ∈ zs, L.length ≤ 1048576) :
    Calls Tryz.prog 124 #[.slice A n c] w fun e w' => ∃ v, e = .returned (.tuple #[v, .bool OB]) ∧ OSS w' w.heap.size w'.heap.size v OL ∧ Below w.heap.size w w' := by
  cases hc : cfB zs 6
  · exact specOf_no A n c zs OL OB hO w h hn hl hc
  · exact specOf_yes A n c zs OL OB hO w h hc
end

end Go.Proofs.YtkfiehndlgplgaaGreatDoor
