/-
  Ka.
-/
import Derived.Test.YtmknjifmmmnjjaaGreatDoorNA
namespace Go.Proofs.YtmknjifmmmnjjaaGreatDoor
set_option maxRecDepth 100000
set_option linter.unusedVariables false
set_option linter.unusedSimpArgs false
set_option linter.unusedSectionVars false

/-! Classes numbered in order; congruences of a list of charts. Mathematics: no program. -/
section
section
variable {α β : Type} [DecidableEq α] [DecidableEq β]
/-- the first of n places with the class x, or n -/
def fsU (c : Nat → α) (x : α) : Nat → Nat
  | 0 => 0
  | n + 1 => if fsU c x n < n then fsU c x n else if c n = x then n else n + 1
theorem fsU_le (c : Nat → α) (x : α) : ∀ n, fsU c x n ≤ n
  | 0 => Nat.le_refl _
  | n + 1 => by
    have := fsU_le c x n
    unfold fsU; split
    · omega
    · split <;> omega
theorem fsU_at (c : Nat → α) (x : α) : ∀ n, fsU c x n < n → c (fsU c x n) = x
  | 0, h => absurd h (Nat.not_lt_zero _)
  | n + 1, h => by
    unfold fsU at h ⊢
    by_cases h1 : fsU c x n < n
    · rw [if_pos h1]; exact fsU_at c x n h1
    · rw [if_neg h1] at h ⊢
      by_cases h2 : c n = x
      · rw [if_pos h2]; exact h2
      · rw [if_neg h2] at h; omega
theorem fsU_none (c : Nat → α) (x : α) : ∀ n k, k < fsU c x n → c k ≠ x
  | 0, k, h => absurd h (Nat.not_lt_zero _)
  | n + 1, k, h => by
    unfold fsU at h
    by_cases h1 : fsU c x n < n
    · rw [if_pos h1] at h; exact fsU_none c x n k h
    · rw [if_neg h1] at h
      have hle := fsU_le c x n
      by_cases h2 : c n = x
      · rw [if_pos h2] at h; exact fsU_none c x n k (by omega)
      · rw [if_neg h2] at h
        rcases Nat.lt_or_ge k n with h3 | h3
        · exact fsU_none c x n k (by omega)
        · obtain rfl : k = n := by omega
          exact h2
theorem fsU_is {c : Nat → α} {x : α} {n k : Nat} (hk : k ≤ n) (h1 : k < n → c k = x) (h2 : ∀ j, j < k → c j ≠ x) : fsU c x n = k := by
  rcases Nat.lt_trichotomy (fsU c x n) k with h | h | h
  · exact absurd (fsU_at c x n (by omega)) (h2 _ h)
  · exact h
  · exact absurd (h1 (by have := fsU_le c x n; omega)) (fsU_none c x n k h)
/-- the first place of the class of i -/
def fsE (c : Nat → α) (i : Nat) : Nat := fsU c (c i) i
theorem fsE_le (c : Nat → α) (i : Nat) : fsE c i ≤ i := fsU_le _ _ _
theorem fsE_at (c : Nat → α) (i : Nat) : c (fsE c i) = c i := by
  unfold fsE
  rcases Nat.lt_or_ge (fsU c (c i) i) i with h | h
  · exact fsU_at c _ i h
  · rw [show fsU c (c i) i = i by have := fsU_le c (c i) i; omega]
theorem fsE_none (c : Nat → α) (i : Nat) : ∀ k, k < fsE c i → c k ≠ c i := fsU_none c _ i
theorem fsE_is {c : Nat → α} {i k : Nat} (hk : k ≤ i) (h1 : c k = c i) (h2 : ∀ j, j < k → c j ≠ c i) : fsE c i = k := fsU_is hk (fun _ => h1) h2
theorem fsE_first (c : Nat → α) (i : Nat) : fsE c (fsE c i) = fsE c i := fsE_is (Nat.le_refl _) rfl (fun j hj => by rw [fsE_at c i]; exact fsE_none c i j hj)
theorem fsE_iff (c : Nat → α) (i j : Nat) : fsE c i = fsE c j ↔ c i = c j := by
  constructor
  · intro h; rw [← fsE_at c i, h, fsE_at c j]
  · intro h
    have h1 := fsE_none c i
    have h2 := fsE_none c j
    have e1 := fsE_at c i
    have e2 := fsE_at c j
    rcases Nat.lt_trichotomy (fsE c i) (fsE c j) with g | g | g
    · exact absurd (e1.trans h) (h2 _ g)
    · exact g
    · exact absurd (e2.trans h.symm) (h1 _ g)
/-- how many classes the first n have -/
def frC (c : Nat → α) : Nat → Nat
  | 0 => 0
  | n + 1 => if fsE c n = n then frC c n + 1 else frC c n
theorem frC_le (c : Nat → α) : ∀ n, frC c n ≤ n
  | 0 => Nat.le_refl _
  | n + 1 => by have := frC_le c n; unfold frC; split <;> omega
theorem frC_mono (c : Nat → α) {n m : Nat} (h : n ≤ m) : frC c n ≤ frC c m := by
  induction m with
  | zero => obtain rfl : n = 0 := by omega
            exact Nat.le_refl _
  | succ m ih =>
    rcases Nat.lt_or_ge n (m + 1) with h' | h'
    · have := ih (by omega)
      show frC c n ≤ (if fsE c m = m then frC c m + 1 else frC c m)
      split <;> omega
    · obtain rfl : n = m + 1 := by omega
      exact Nat.le_refl _
/-- the number of the class of i -/
def nuE (c : Nat → α) (i : Nat) : Nat := frC c (fsE c i)
theorem frC_next {c : Nat → α} {i : Nat} (h : fsE c i = i) : frC c (i + 1) = frC c i + 1 := by
  show (if fsE c i = i then frC c i + 1 else frC c i) = _
  rw [if_pos h]
theorem frC_same {c : Nat → α} {i : Nat} (h : fsE c i ≠ i) : frC c (i + 1) = frC c i := by
  show (if fsE c i = i then frC c i + 1 else frC c i) = _
  rw [if_neg h]
theorem nu_new {c : Nat → α} {i : Nat} (h : fsE c i = i) : nuE c i = frC c i := by unfold nuE; rw [h]
theorem nu_of {c : Nat → α} {i k : Nat} (h : c i = c k) : nuE c i = nuE c k := by unfold nuE; rw [(fsE_iff c i k).2 h]
theorem nu_lt (c : Nat → α) {i n : Nat} (h : i < n) : nuE c i < frC c n := by
  have h1 := frC_next (fsE_first c i)
  have h2 := frC_mono c (show fsE c i + 1 ≤ n by have := fsE_le c i; omega)
  unfold nuE; omega
theorem nu_iff (c : Nat → α) (i j : Nat) : nuE c i = nuE c j ↔ c i = c j := by
  constructor
  · intro h
    rw [← fsE_iff]
    have h1 := frC_next (fsE_first c i)
    have h2 := frC_next (fsE_first c j)
    unfold nuE at h
    rcases Nat.lt_trichotomy (fsE c i) (fsE c j) with g | g | g
    · have := frC_mono c (show fsE c i + 1 ≤ fsE c j by omega); omega
    · exact g
    · have := frC_mono c (show fsE c j + 1 ≤ fsE c i by omega); omega
  · exact nu_of
theorem fs_same {c : Nat → α} {d : Nat → β} {n : Nat} (h : ∀ i j, i < n → j < n → (c i = c j ↔ d i = d j)) {i : Nat} (hi : i < n) : fsE c i = fsE d i := by
  have hl := fsE_le d i
  refine fsE_is hl ((h _ _ (by omega) hi).2 (fsE_at d i)) (fun j hj e => ?_)
  exact fsE_none d i j hj ((h _ _ (by omega) hi).1 e)
theorem fr_same {c : Nat → α} {d : Nat → β} {n : Nat} (h : ∀ i j, i < n → j < n → (c i = c j ↔ d i = d j)) : ∀ m, m ≤ n → frC c m = frC d m
  | 0, _ => rfl
  | m + 1, hm => by unfold frC; rw [fs_same h (by omega), fr_same h m (by omega)]
theorem nu_same {c : Nat → α} {d : Nat → β} {n : Nat} (h : ∀ i j, i < n → j < n → (c i = c j ↔ d i = d j)) {i : Nat} (hi : i < n) : nuE c i = nuE d i := by
  unfold nuE
  rw [fs_same h hi, fr_same h _ (by have := fsE_le d i; omega)]
/-- the class numbers of the first n, in order -/
def nuL (c : Nat → α) (n : Nat) : List Int := (List.range n).map (fun i => (nuE c i : Int))
theorem nuL_len (c : Nat → α) (n : Nat) : (nuL c n).length = n := by unfold nuL; simp
theorem nuL_get (c : Nat → α) {n i : Nat} (h : i < n) : (nuL c n)[i]? = some (nuE c i : Int) := by unfold nuL; simp [h]
theorem nuL_of (c : Nat → α) {n i : Nat} (h : i < n) : ofL (nuL c n) i = (nuE c i : Int) := by unfold ofL; rw [nuL_get c h]; rfl
theorem nuL_snoc (c : Nat → α) (n : Nat) : nuL c (n + 1) = nuL c n ++ [(nuE c n : Int)] := by unfold nuL; rw [List.range_succ, List.map_append]; rfl
theorem nuL_same {c : Nat → α} {d : Nat → β} {n : Nat} (h : ∀ i j, i < n → j < n → (c i = c j ↔ d i = d j)) : nuL c n = nuL d n := by
  unfold nuL
  refine List.map_congr_left (fun i hi => ?_)
  rw [nu_same h (List.mem_range.1 hi)]
theorem nuL_again (c : Nat → α) (n : Nat) : nuL (ofL (nuL c n)) n = nuL c n := nuL_same (fun i j hi hj => by
  rw [nuL_of c hi, nuL_of c hj]
  have := nu_iff c i j
  constructor
  · intro h; exact this.1 (by omega)
  · intro h; have := this.2 h; omega)
theorem nuL_range {c : Nat → α} {n : Nat} {z : Int} (h : z ∈ nuL c n) : 0 ≤ z ∧ z < (frC c n : Int) := by
  unfold nuL at h
  obtain ⟨i, hi, rfl⟩ := List.mem_map.1 h
  have := nu_lt c (List.mem_range.1 hi)
  omega
end

/-! ### congruences -/
/-- the place of a chart -/
def ixP (zs : List (List Int)) (L : List Int) : Nat := (fndI zs L).toNat
theorem ixP_at {zs : List (List Int)} (hs : Srt zs) {i : Nat} (hi : i < zs.length) : ixP zs (ent zs i) = i := by unfold ixP; rw [fndI_at hs hi rfl]; rfl
theorem ixP_mem {zs : List (List Int)} (hs : Srt zs) {L : List Int} (hL : L ∈ zs) : ixP zs L < zs.length ∧ ent zs (ixP zs L) = L ∧ fndI zs L = (ixP zs L : Int) := by
  obtain ⟨i, hi, rfl⟩ := mem_ent hL
  rw [ixP_at hs hi]
  exact ⟨hi, rfl, fndI_at hs hi rfl⟩
/-- the class of a chart -/
def kC (zs : List (List Int)) (cs : List Int) (L : List Int) : Int := ofL cs (ixP zs L)
/-- what the classes of two charts do by a third one -/
def ag3 (zs : List (List Int)) (cs : List Int) (L M K : List Int) : Bool := decide (kC zs cs (tiL L K) = kC zs cs (tiL M K)) && decide (kC zs cs (tiL K L) = kC zs cs (tiL K M))
def cpB (zs : List (List Int)) (cs : List Int) : Bool := zs.all (fun L => zs.all (fun M => !decide (kC zs cs L = kC zs cs M) || zs.all (ag3 zs cs L M)))
theorem cpB_iff {zs : List (List Int)} {cs : List Int} : cpB zs cs = true ↔ ∀ L ∈ zs, ∀ M ∈ zs, kC zs cs L = kC zs cs M → ∀ K ∈ zs, kC zs cs (tiL L K) = kC zs cs (tiL M K) ∧ kC zs cs (tiL K L) = kC zs cs (tiL K M) := by
  unfold cpB ag3
  simp only [List.all_eq_true, Bool.or_eq_true, Bool.not_eq_true', decide_eq_false_iff_not, Bool.and_eq_true, decide_eq_true_eq]
  constructor
  · intro h L hL M hM e K hK
    rcases h L hL M hM with h1 | h1
    · exact absurd e h1
    · exact h1 K hK
  · intro h L hL M hM
    by_cases e : kC zs cs L = kC zs cs M
    · exact .inr (h L hL M hM e)
    · exact .inl e
def cgB (zs : List (List Int)) (cs : List Int) : Bool := sgS zs && decide (cs.length = zs.length) && decide (nuL (ofL cs) zs.length = cs) && cpB zs cs
structure Cg (zs : List (List Int)) (cs : List Int) : Prop where
  sg : sgS zs = true
  len : cs.length = zs.length
  nu : nuL (ofL cs) zs.length = cs
  cp : ∀ L ∈ zs, ∀ M ∈ zs, kC zs cs L = kC zs cs M → ∀ K ∈ zs, kC zs cs (tiL L K) = kC zs cs (tiL M K) ∧ kC zs cs (tiL K L) = kC zs cs (tiL K M)
theorem cgB_iff {zs : List (List Int)} {cs : List Int} : cgB zs cs = true ↔ Cg zs cs := by
  unfold cgB
  rw [Bool.and_eq_true, Bool.and_eq_true, Bool.and_eq_true, decide_eq_true_eq, decide_eq_true_eq, cpB_iff]
  exact ⟨fun h => ⟨h.1.1.1, h.1.1.2, h.1.2, h.2⟩, fun h => ⟨⟨⟨h.sg, h.len⟩, h.nu⟩, h.cp⟩⟩
/-- the specification asks each chart against the first one of its class -/
def o3B (zs : List (List Int)) (cs : List Int) (i k j : Nat) : Bool := ag3 zs cs (ent zs i) (ent zs k) (ent zs j)
def o2B (zs : List (List Int)) (cs : List Int) (i : Nat) : Bool := decide (fsE (ofL cs) i = i) || (List.range zs.length).all (o3B zs cs i (fsE (ofL cs) i))
theorem o2_all {zs : List (List Int)} {cs : List Int} (hs : Srt zs) : (∀ i, i < zs.length → o2B zs cs i = true) ↔ cpB zs cs = true := by
  have hk : ∀ i, i < zs.length → kC zs cs (ent zs i) = ofL cs i := fun i hi => by unfold kC; rw [ixP_at hs hi]
  have ho : ∀ i k j, o3B zs cs i k j = true ↔ kC zs cs (tiL (ent zs i) (ent zs j)) = kC zs cs (tiL (ent zs k) (ent zs j)) ∧ kC zs cs (tiL (ent zs j) (ent zs i)) = kC zs cs (tiL (ent zs j) (ent zs k)) := fun i k j => by
    unfold o3B ag3; rw [Bool.and_eq_true, decide_eq_true_eq, decide_eq_true_eq]
  have h2 : ∀ i, o2B zs cs i = true ↔ ∀ j, j < zs.length → o3B zs cs i (fsE (ofL cs) i) j = true := fun i => by
    unfold o2B
    rw [Bool.or_eq_true, decide_eq_true_eq, List.all_eq_true]
    constructor
    · rintro (h | h) j hj
      · rw [h, ho]; exact ⟨rfl, rfl⟩
      · exact h j (List.mem_range.2 hj)
    · intro h; exact .inr (fun j hj => h j (List.mem_range.1 hj))
  rw [cpB_iff]
  constructor
  · intro h L hL M hM e K hK
    obtain ⟨i, hi, rfl⟩ := mem_ent hL
    obtain ⟨k, hk', rfl⟩ := mem_ent hM
    obtain ⟨j, hj, rfl⟩ := mem_ent hK
    rw [hk i hi, hk k hk', ← fsE_iff] at e
    have a := (ho _ _ _).1 ((h2 i).1 (h i hi) j hj)
    have b := (ho _ _ _).1 ((h2 k).1 (h k hk') j hj)
    rw [← e] at b
    exact ⟨a.1.trans b.1.symm, a.2.trans b.2.symm⟩
  · intro h i hi
    rw [h2]
    intro j hj
    have hf : fsE (ofL cs) i < zs.length := by have := fsE_le (ofL cs) i; omega
    exact (ho _ _ _).2 (h _ (ent_mem hi) _ (ent_mem hf) (by rw [hk i hi, hk _ hf, fsE_at (ofL cs) i]) _ (ent_mem hj))
theorem cgB_spec {zs : List (List Int)} {cs : List Int} (hS : sgS zs = true) (hl : cs.length = zs.length) (hn : nuL (ofL cs) zs.length = cs) : cgB zs cs = true ↔ ∀ i, i < zs.length → o2B zs cs i = true := by
  rw [o2_all (sgS_iff.1 hS).srt]
  unfold cgB
  rw [hS, decide_eq_true hl, decide_eq_true hn]
  simp
end

end Go.Proofs.YtmknjifmmmnjjaaGreatDoor
