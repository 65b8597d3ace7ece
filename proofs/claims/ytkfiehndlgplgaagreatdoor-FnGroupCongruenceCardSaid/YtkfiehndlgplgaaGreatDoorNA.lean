/-
  Sg.
-/
import Derived.Test.YtkfiehndlgplgaaGreatDoorMB
namespace Go.Proofs.YtkfiehndlgplgaaGreatDoor
set_option maxRecDepth 100000
set_option linter.unusedVariables false
set_option linter.unusedSimpArgs false
set_option linter.unusedSectionVars false

/-! Semigroups of charts as sorted lists of lists: the order of lists, the place of one among others by halving; no program. -/
section
/-- number by number -/
def lexB : List Int → List Int → Bool
  | [], [] => false
  | [], _ :: _ => true
  | _ :: _, [] => false
  | a :: L, b :: M => if a = b then lexB L M else decide (a < b)
theorem lexB_irrefl : ∀ L : List Int, lexB L L = false
  | [] => rfl
  | a :: L => by unfold lexB; rw [if_pos rfl]; exact lexB_irrefl L
theorem lexB_trans : ∀ {L M K : List Int}, lexB L M = true → lexB M K = true → lexB L K = true
  | [], [], _, h, _ => by cases h
  | [], _ :: _, [], _, h => by cases h
  | [], _ :: _, _ :: _, _, _ => rfl
  | _ :: _, [], _, h, _ => by cases h
  | _ :: _, _ :: _, [], _, h => by cases h
  | a :: L, b :: M, c :: K, h1, h2 => by
    unfold lexB at h1 h2 ⊢
    by_cases hab : a = b
    · subst hab
      rw [if_pos rfl] at h1
      by_cases hac : a = c
      · subst hac
        rw [if_pos rfl] at h2 ⊢
        exact lexB_trans h1 h2
      · rw [if_neg hac] at h2 ⊢; exact h2
    · rw [if_neg hab] at h1
      have h1' := of_decide_eq_true h1
      by_cases hbc : b = c
      · subst hbc; rw [if_neg hab]; exact h1
      · rw [if_neg hbc] at h2
        have h2' := of_decide_eq_true h2
        rw [if_neg (by omega)]; exact decide_eq_true (by omega)
theorem lexB_total : ∀ {L M : List Int}, lexB L M = false → lexB M L = false → L = M
  | [], [], _, _ => rfl
  | [], _ :: _, h, _ => by cases h
  | _ :: _, [], _, h => by cases h
  | a :: L, b :: M, h1, h2 => by
    unfold lexB at h1 h2
    by_cases hab : a = b
    · subst hab
      rw [if_pos rfl] at h1 h2
      rw [lexB_total h1 h2]
    · rw [if_neg hab] at h1
      rw [if_neg (fun e => hab e.symm)] at h2
      have := of_decide_eq_false h1
      have := of_decide_eq_false h2
      omega
theorem lexB_asymm {L M : List Int} (h : lexB L M = true) : lexB M L = false := by
  cases h' : lexB M L
  · rfl
  · have := lexB_trans h h'; rw [lexB_irrefl] at this; cases this
/-- what the first k numbers have in common decides nothing -/
theorem lexB_drop : ∀ (k : Nat) {L M : List Int}, L.take k = M.take k → k ≤ L.length → k ≤ M.length → lexB L M = lexB (L.drop k) (M.drop k)
  | 0, _, _, _, _, _ => rfl
  | k + 1, [], _, _, h, _ => by simp at h
  | k + 1, _ :: _, [], _, _, h => by simp at h
  | k + 1, a :: L, b :: M, h, h1, h2 => by
    simp only [List.take_succ_cons, List.cons.injEq] at h
    simp only [List.drop_succ_cons]
    have : lexB (a :: L) (b :: M) = lexB L M := by rw [lexB, if_pos h.1]
    rw [this]
    exact lexB_drop k h.2 (by simpa using h1) (by simpa using h2)
theorem lexB_at {k : Nat} {L M : List Int} (h : L.take k = M.take k) (h1 : k < L.length) (h2 : k < M.length) (hne : L[k]?.getD 0 ≠ M[k]?.getD 0) : lexB L M = decide (L[k]?.getD 0 < M[k]?.getD 0) := by
  rw [lexB_drop k h (by omega) (by omega), List.drop_eq_getElem_cons h1, List.drop_eq_getElem_cons h2]
  rw [List.getElem?_eq_getElem h1, List.getElem?_eq_getElem h2] at hne ⊢
  rw [lexB, if_neg (show ¬ L[k] = M[k] from hne)]
  rfl
theorem lexB_end {k : Nat} {L M : List Int} (h : L.take k = M.take k) (h1 : k ≤ L.length) (h2 : k ≤ M.length) (he : k = L.length ∨ k = M.length) : lexB L M = decide (L.length < M.length) := by
  rw [lexB_drop k h h1 h2]
  by_cases e : k = L.length
  · subst e
    rw [List.drop_length]
    by_cases e2 : L.length = M.length
    · rw [e2, List.drop_length]; simp [lexB]
    · rw [List.drop_eq_getElem_cons (by omega)]
      rw [decide_eq_true (by omega)]; rfl
  · have e2 : k = M.length := by rcases he with h | h <;> omega
    subst e2
    rw [List.drop_length, List.drop_eq_getElem_cons (by omega), decide_eq_false (by omega)]
    rfl

/-! ### halving -/
def ent (zs : List (List Int)) (i : Nat) : List Int := zs[i]?.getD []
def bsF (zs : List (List Int)) (f : List Int) : Nat → Nat → Nat → Nat
  | 0, lo, _ => lo
  | k + 1, lo, hi => if lo < hi then (if lexB (ent zs ((lo + hi) / 2)) f = true then bsF zs f k ((lo + hi) / 2 + 1) hi else bsF zs f k lo ((lo + hi) / 2)) else lo
def fndP (zs : List (List Int)) (f : List Int) : Nat := bsF zs f zs.length 0 zs.length
def fndI (zs : List (List Int)) (f : List Int) : Int := if fndP zs f < zs.length ∧ ent zs (fndP zs f) = f then (fndP zs f : Int) else -1
theorem bsF_stop (zs : List (List Int)) (f : List Int) (k : Nat) {lo hi : Nat} (h : ¬ lo < hi) : bsF zs f k lo hi = lo := by
  cases k with
  | zero => rfl
  | succ k => unfold bsF; rw [if_neg h]
theorem bsF_low {zs : List (List Int)} {f : List Int} {k lo hi : Nat} (h : lo < hi) (hl : lexB (ent zs ((lo + hi) / 2)) f = true) : bsF zs f (k + 1) lo hi = bsF zs f k ((lo + hi) / 2 + 1) hi := by
  rw [bsF, if_pos h, if_pos hl]
theorem bsF_high {zs : List (List Int)} {f : List Int} {k lo hi : Nat} (h : lo < hi) (hl : lexB (ent zs ((lo + hi) / 2)) f = false) : bsF zs f (k + 1) lo hi = bsF zs f k lo ((lo + hi) / 2) := by
  rw [bsF, if_pos h, if_neg (by rw [hl]; simp)]
theorem fndI_range (zs : List (List Int)) (f : List Int) : -1 ≤ fndI zs f ∧ fndI zs f < zs.length := by
  unfold fndI; split <;> omega
theorem fndI_mem {zs : List (List Int)} {f : List Int} (h : 0 ≤ fndI zs f) : f ∈ zs ∧ ent zs (fndI zs f).toNat = f := by
  unfold fndI at h ⊢
  split at h
  · rename_i hc
    rw [if_pos hc, Int.toNat_natCast]
    refine ⟨?_, hc.2⟩
    have := hc.2
    unfold ent at this
    rw [List.getElem?_eq_getElem hc.1] at this
    rw [← this]; exact List.getElem_mem _
  · omega

/-- each list stands ahead of the next ones -/
def Srt (zs : List (List Int)) : Prop := ∀ i j, i < j → j < zs.length → lexB (ent zs i) (ent zs j) = true
theorem srt_of_next {zs : List (List Int)} (h : ∀ i, i + 1 < zs.length → lexB (ent zs i) (ent zs (i + 1)) = true) : Srt zs := by
  have key : ∀ d i, i + d + 1 < zs.length → lexB (ent zs i) (ent zs (i + d + 1)) = true := fun d => by
    induction d with
    | zero => intro i hi; exact h i hi
    | succ d ih => intro i hi; exact lexB_trans (ih i (by omega)) (h (i + d + 1) hi)
  intro i j hij hj
  have := key (j - i - 1) i (by omega)
  rwa [show i + (j - i - 1) + 1 = j by omega] at this
theorem bsF_at {zs : List (List Int)} {f : List Int} (hs : Srt zs) {q : Nat} (hq : q < zs.length) (hf : ent zs q = f) : ∀ (k lo hi : Nat), hi - lo ≤ k → lo ≤ q → q ≤ hi → hi ≤ zs.length → bsF zs f k lo hi = q
  | 0, lo, hi, h, h1, h2, _ => by show lo = q; omega
  | k + 1, lo, hi, h, h1, h2, h3 => by
    by_cases hlt : lo < hi
    · cases hl : lexB (ent zs ((lo + hi) / 2)) f
      · rw [bsF_high hlt hl]
        refine bsF_at hs hq hf k lo _ (by omega) h1 ?_ (by omega)
        apply Nat.le_of_not_lt
        intro hc
        have := hs _ _ hc hq
        rw [hf, hl] at this; cases this
      · rw [bsF_low hlt hl]
        refine bsF_at hs hq hf k _ hi (by omega) ?_ h2 h3
        apply Nat.lt_of_not_le
        intro hc
        rcases Nat.lt_or_eq_of_le hc with hc | hc
        · have := lexB_asymm (hs _ _ hc (by omega))
          rw [hf, hl] at this; cases this
        · rw [← hc, hf, lexB_irrefl] at hl; cases hl
    · rw [bsF_stop _ _ _ hlt]; omega
theorem fndI_at {zs : List (List Int)} {f : List Int} (hs : Srt zs) {q : Nat} (hq : q < zs.length) (hf : ent zs q = f) : fndI zs f = (q : Int) := by
  have h : fndP zs f = q := bsF_at hs hq hf _ _ _ (by omega) (by omega) (by omega) (Nat.le_refl _)
  unfold fndI; rw [h, if_pos ⟨hq, hf⟩]
theorem ent_mem {zs : List (List Int)} {i : Nat} (h : i < zs.length) : ent zs i ∈ zs := by
  unfold ent; rw [List.getElem?_eq_getElem h]; exact List.getElem_mem _
theorem mem_ent {zs : List (List Int)} {f : List Int} (h : f ∈ zs) : ∃ i, i < zs.length ∧ ent zs i = f := by
  obtain ⟨i, hi, e⟩ := List.getElem_of_mem h
  exact ⟨i, hi, by unfold ent; rw [List.getElem?_eq_getElem hi]; exact e⟩
theorem fndI_iff {zs : List (List Int)} {f : List Int} (hs : Srt zs) : 0 ≤ fndI zs f ↔ f ∈ zs := by
  constructor
  · exact fun h => (fndI_mem h).1
  · intro h
    obtain ⟨i, hi, e⟩ := mem_ent h
    rw [fndI_at hs hi e]; omega

/-! ### semigroups -/
def chB (zs : List (List Int)) : Bool := zs.all (fun L => isC L && decide (L.length = (ent zs 0).length)) && decide (0 < zs.length)
def s1B (zs : List (List Int)) (i : Nat) : Bool := (decide (i = 0) || lexB (ent zs (i - 1)) (ent zs i)) && decide (0 ≤ fndI zs (tuL (ent zs i)))
def s2B (zs : List (List Int)) (i k : Nat) : Bool := decide (0 ≤ fndI zs (tiL (ent zs i) (ent zs k)))
/-- as it is reckoned -/
def sgS (zs : List (List Int)) : Bool := chB zs && decide (zs.length ≤ 400) && (List.range zs.length).all (s1B zs) && (List.range zs.length).all (fun i => (List.range zs.length).all (s2B zs i))
/-- as it is told -/
structure Sg (zs : List (List Int)) : Prop where
  one : 1 ≤ zs.length
  most : zs.length ≤ 400
  ch : ∀ L ∈ zs, isC L = true ∧ L.length = (ent zs 0).length
  srt : Srt zs
  tu : ∀ L ∈ zs, tuL L ∈ zs
  ti : ∀ L ∈ zs, ∀ M ∈ zs, tiL L M ∈ zs
theorem chB_iff {zs : List (List Int)} : chB zs = true ↔ 1 ≤ zs.length ∧ ∀ L ∈ zs, isC L = true ∧ L.length = (ent zs 0).length := by
  unfold chB
  rw [Bool.and_eq_true, List.all_eq_true, decide_eq_true_eq]
  constructor
  · rintro ⟨h, h1⟩
    exact ⟨h1, fun L hL => by have := h L hL; rw [Bool.and_eq_true, decide_eq_true_eq] at this; exact this⟩
  · rintro ⟨h1, h⟩
    exact ⟨fun L hL => by rw [Bool.and_eq_true, decide_eq_true_eq]; exact h L hL, h1⟩
theorem sgS_iff {zs : List (List Int)} : sgS zs = true ↔ Sg zs := by
  unfold sgS
  rw [Bool.and_eq_true, Bool.and_eq_true, Bool.and_eq_true, chB_iff, decide_eq_true_eq, List.all_eq_true, List.all_eq_true]
  constructor
  · rintro ⟨⟨⟨⟨h1, hch⟩, h400⟩, hs1⟩, hs2⟩
    have k1 : ∀ i, i < zs.length → s1B zs i = true := fun i hi => hs1 i (List.mem_range.2 hi)
    have hsrt : Srt zs := srt_of_next fun i hi => by
      have := k1 (i + 1) hi
      unfold s1B at this
      rw [Bool.and_eq_true, Bool.or_eq_true] at this
      rcases this.1 with h | h
      · exact absurd (of_decide_eq_true h) (by omega)
      · simpa using h
    refine ⟨h1, h400, hch, hsrt, fun L hL => ?_, fun L hL M hM => ?_⟩
    · obtain ⟨i, hi, rfl⟩ := mem_ent hL
      have := k1 i hi
      unfold s1B at this
      rw [Bool.and_eq_true, decide_eq_true_eq] at this
      exact (fndI_mem this.2).1
    · obtain ⟨i, hi, rfl⟩ := mem_ent hL
      obtain ⟨k, hk, rfl⟩ := mem_ent hM
      have := List.all_eq_true.1 (hs2 i (List.mem_range.2 hi)) k (List.mem_range.2 hk)
      exact (fndI_mem (of_decide_eq_true this)).1
  · intro h
    refine ⟨⟨⟨⟨h.one, h.ch⟩, h.most⟩, fun i hi => ?_⟩, fun i hi => List.all_eq_true.2 fun k hk => ?_⟩
    · have hi' := List.mem_range.1 hi
      unfold s1B
      rw [Bool.and_eq_true, Bool.or_eq_true, decide_eq_true_eq, decide_eq_true_eq]
      refine ⟨?_, (fndI_iff h.srt).2 (h.tu _ (ent_mem hi'))⟩
      by_cases e : i = 0
      · exact .inl e
      · exact .inr (h.srt _ _ (by omega) hi')
    · unfold s2B
      exact decide_eq_true ((fndI_iff h.srt).2 (h.ti _ (ent_mem (List.mem_range.1 hi)) _ (ent_mem (List.mem_range.1 hk))))
end

end Go.Proofs.YtkfiehndlgplgaaGreatDoor
