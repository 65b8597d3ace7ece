/-
  Ka Km Kb Bb7 Bc7 Bd7 Be7 Bf7 Kg Kh Kr Ks Kt Ku Kv.
-/
import Derived.Maps.OwnSet
import Derived.Deep.QuietTactic
import Derived.BigQuiet
import Derived.Deep.RegionHeld3
import Derived.ChangeKeysEq
import Derived.Laws.StructEq
import Derived.RangeFuncOwn
import Derived.Test.YtkfiehndlgplgaaGreatDoorMA
import Derived.Test.YtkfiehndlgplgaaGreatDoorMC
import Derived.Test.YtkfiehndlgplgaaGreatDoorNA
import Derived.Test.YtkfiehndlgplgaaGreatDoorNB
import Derived.Test.YtkfiehndlgplgaaGreatDoorVA
import Derived.Test.YtkfiehndlgplgaaGreatDoorNR
import Derived.Test.YtkfiehndlgplgaaGreatDoorNT
import Derived.Test.YtkfiehndlgplgaaGreatDoorNV
import Derived.Test.YtkfiehndlgplgaaGreatDoorPM
import Derived.Test.YtkfiehndlgplgaaGreatDoorPN
namespace Go.Proofs.YtkfiehndlgplgaaGreatDoor
set_option maxRecDepth 100000
set_option linter.unusedVariables false
set_option linter.unusedSimpArgs false
set_option linter.unusedSectionVars false

/-! Classes numbered in order; congruences of a list of charts. Mathematics: no program. -/
section
section
variable {α β : Type} [DecidableEq α] [DecidableEq β]
/-- the first of n places with the class x, or n -/
def fsU (c : Nat → α) (x : α) : Nat → Nat
  | 0 => 0
  | n + 1 => if fsU c x n < n then fsU c x n else if c n = x then n else n + 1
theorem fsU_le (c : Nat → α) (x : α) : ∀ n, fsU c x n ≤ n
  | 0 => Nat.le_refl _
  | n + 1 => by
    have := fsU_le c x n
    unfold fsU; split
    · omega
    · split <;> omega
theorem fsU_at (c : Nat → α) (x : α) : ∀ n, fsU c x n < n → c (fsU c x n) = x
  | 0, h => absurd h (Nat.not_lt_zero _)
  | n + 1, h => by
    unfold fsU at h ⊢
    by_cases h1 : fsU c x n < n
    · rw [if_pos h1]; exact fsU_at c x n h1
    · rw [if_neg h1] at h ⊢
      by_cases h2 : c n = x
      · rw [if_pos h2]; exact h2
      · rw [if_neg h2] at h; omega
theorem fsU_none (c : Nat → α) (x : α) : ∀ n k, k < fsU c x n → c k ≠ x
  | 0, k, h => absurd h (Nat.not_lt_zero _)
  | n + 1, k, h => by
    unfold fsU at h
    by_cases h1 : fsU c x n < n
    · rw [if_pos h1] at h; exact fsU_none c x n k h
    · rw [if_neg h1] at h
      have hle := fsU_le c x n
      by_cases h2 : c n = x
      · rw [if_pos h2] at h; exact fsU_none c x n k (by omega)
      · rw [if_neg h2] at h
        rcases Nat.lt_or_ge k n with h3 | h3
        · exact fsU_none c x n k (by omega)
        · obtain rfl : k = n := by omega
          exact h2
theorem fsU_is {c : Nat → α} {x : α} {n k : Nat} (hk : k ≤ n) (h1 : k < n → c k = x) (h2 : ∀ j, j < k → c j ≠ x) : fsU c x n = k := by
  rcases Nat.lt_trichotomy (fsU c x n) k with h | h | h
  · exact absurd (fsU_at c x n (by omega)) (h2 _ h)
  · exact h
  · exact absurd (h1 (by have := fsU_le c x n; omega)) (fsU_none c x n k h)
/-- the first place of the class of i -/
def fsE (c : Nat → α) (i : Nat) : Nat := fsU c (c i) i
theorem fsE_le (c : Nat → α) (i : Nat) : fsE c i ≤ i := fsU_le _ _ _
theorem fsE_at (c : Nat → α) (i : Nat) : c (fsE c i) = c i := by
  unfold fsE
  rcases Nat.lt_or_ge (fsU c (c i) i) i with h | h
  · exact fsU_at c _ i h
  · rw [show fsU c (c i) i = i by have := fsU_le c (c i) i; omega]
theorem fsE_none (c : Nat → α) (i : Nat) : ∀ k, k < fsE c i → c k ≠ c i := fsU_none c _ i
theorem fsE_is {c : Nat → α} {i k : Nat} (hk : k ≤ i) (h1 : c k = c i) (h2 : ∀ j, j < k → c j ≠ c i) : fsE c i = k := fsU_is hk (fun _ => h1) h2
theorem fsE_first (c : Nat → α) (i : Nat) : fsE c (fsE c i) = fsE c i := fsE_is (Nat.le_refl _) rfl (fun j hj => by rw [fsE_at c i]; exact fsE_none c i j hj)
theorem fsE_iff (c : Nat → α) (i j : Nat) : fsE c i = fsE c j ↔ c i = c j := by
  constructor
  · intro h; rw [← fsE_at c i, h, fsE_at c j]
  · intro h
    have h1 := fsE_none c i
    have h2 := fsE_none c j
    have e1 := fsE_at c i
    have e2 := fsE_at c j
    rcases Nat.lt_trichotomy (fsE c i) (fsE c j) with g | g | g
    · exact absurd (e1.trans h) (h2 _ g)
    · exact g
    · exact absurd (e2.trans h.symm) (h1 _ g)
/-- how many classes the first n have -/
def frC (c : Nat → α) : Nat → Nat
  | 0 => 0
  | n + 1 => if fsE c n = n then frC c n + 1 else frC c n
theorem frC_le (c : Nat → α) : ∀ n, frC c n ≤ n
  | 0 => Nat.le_refl _
  | n + 1 => by have := frC_le c n; unfold frC; split <;> omega
theorem frC_mono (c : Nat → α) {n m : Nat} (h : n ≤ m) : frC c n ≤ frC c m := by
  induction m with
  | zero => obtain rfl : n = 0 := by omega
            exact Nat.le_refl _
  | succ m ih =>
    rcases Nat.lt_or_ge n (m + 1) with h' | h'
    · have := ih (by omega)
      show frC c n ≤ (if fsE c m = m then frC c m + 1 else frC c m)
      split <;> omega
    · obtain rfl : n = m + 1 := by omega
      exact Nat.le_refl _
/-- the number of the class of i -/
def nuE (c : Nat → α) (i : Nat) : Nat := frC c (fsE c i)
theorem frC_next {c : Nat → α} {i : Nat} (h : fsE c i = i) : frC c (i + 1) = frC c i + 1 := by
  show (if fsE c i = i then frC c i + 1 else frC c i) = _
  rw [if_pos h]
theorem frC_same {c : Nat → α} {i : Nat} (h : fsE c i ≠ i) : frC c (i + 1) = frC c i := by
  show (if fsE c i = i then frC c i + 1 else frC c i) = _
  rw [if_neg h]
theorem nu_new {c : Nat → α} {i : Nat} (h : fsE c i = i) : nuE c i = frC c i := by unfold nuE; rw [h]
theorem nu_of {c : Nat → α} {i k : Nat} (h : c i = c k) : nuE c i = nuE c k := by unfold nuE; rw [(fsE_iff c i k).2 h]
theorem nu_lt (c : Nat → α) {i n : Nat} (h : i < n) : nuE c i < frC c n := by
  have h1 := frC_next (fsE_first c i)
  have h2 := frC_mono c (show fsE c i + 1 ≤ n by have := fsE_le c i; omega)
  unfold nuE; omega
theorem nu_iff (c : Nat → α) (i j : Nat) : nuE c i = nuE c j ↔ c i = c j := by
  constructor
  · intro h
    rw [← fsE_iff]
    have h1 := frC_next (fsE_first c i)
    have h2 := frC_next (fsE_first c j)
    unfold nuE at h
    rcases Nat.lt_trichotomy (fsE c i) (fsE c j) with g | g | g
    · have := frC_mono c (show fsE c i + 1 ≤ fsE c j by omega); omega
    · exact g
    · have := frC_mono c (show fsE c j + 1 ≤ fsE c i by omega); omega
  · exact nu_of
theorem fs_same {c : Nat → α} {d : Nat → β} {n : Nat} (h : ∀ i j, i < n → j < n → (c i = c j ↔ d i = d j)) {i : Nat} (hi : i < n) : fsE c i = fsE d i := by
  have hl := fsE_le d i
  refine fsE_is hl ((h _ _ (by omega) hi).2 (fsE_at d i)) (fun j hj e => ?_)
  exact fsE_none d i j hj ((h _ _ (by omega) hi).1 e)
theorem fr_same {c : Nat → α} {d : Nat → β} {n : Nat} (h : ∀ i j, i < n → j < n → (c i = c j ↔ d i = d j)) : ∀ m, m ≤ n → frC c m = frC d m
  | 0, _ => rfl
  | m + 1, hm => by unfold frC; rw [fs_same h (by omega), fr_same h m (by omega)]
theorem nu_same {c : Nat → α} {d : Nat → β} {n : Nat} (h : ∀ i j, i < n → j < n → (c i = c j ↔ d i = d j)) {i : Nat} (hi : i < n) : nuE c i = nuE d i := by
  unfold nuE
  rw [fs_same h hi, fr_same h _ (by have := fsE_le d i; omega)]
/-- the class numbers of the first n, in order -/
def nuL (c : Nat → α) (n : Nat) : List Int := (List.range n).map (fun i => (nuE c i : Int))
theorem nuL_len (c : Nat → α) (n : Nat) : (nuL c n).length = n := by unfold nuL; simp
theorem nuL_get (c : Nat → α) {n i : Nat} (h : i < n) : (nuL c n)[i]? = some (nuE c i : Int) := by unfold nuL; simp [h]
theorem nuL_of (c : Nat → α) {n i : Nat} (h : i < n) : ofL (nuL c n) i = (nuE c i : Int) := by unfold ofL; rw [nuL_get c h]; rfl
theorem nuL_snoc (c : Nat → α) (n : Nat) : nuL c (n + 1) = nuL c n ++ [(nuE c n : Int)] := by unfold nuL; rw [List.range_succ, List.map_append]; rfl
theorem nuL_same {c : Nat → α} {d : Nat → β} {n : Nat} (h : ∀ i j, i < n → j < n → (c i = c j ↔ d i = d j)) : nuL c n = nuL d n := by
  unfold nuL
  refine List.map_congr_left (fun i hi => ?_)
  rw [nu_same h (List.mem_range.1 hi)]
theorem nuL_again (c : Nat → α) (n : Nat) : nuL (ofL (nuL c n)) n = nuL c n := nuL_same (fun i j hi hj => by
  rw [nuL_of c hi, nuL_of c hj]
  have := nu_iff c i j
  constructor
  · intro h; exact this.1 (by omega)
  · intro h; have := this.2 h; omega)
theorem nuL_range {c : Nat → α} {n : Nat} {z : Int} (h : z ∈ nuL c n) : 0 ≤ z ∧ z < (frC c n : Int) := by
  unfold nuL at h
  obtain ⟨i, hi, rfl⟩ := List.mem_map.1 h
  have := nu_lt c (List.mem_range.1 hi)
  omega
end

/-! ### congruences -/
/-- the place of a chart -/
def ixP (zs : List (List Int)) (L : List Int) : Nat := (fndI zs L).toNat
theorem ixP_at {zs : List (List Int)} (hs : Srt zs) {i : Nat} (hi : i < zs.length) : ixP zs (ent zs i) = i := by unfold ixP; rw [fndI_at hs hi rfl]; rfl
theorem ixP_mem {zs : List (List Int)} (hs : Srt zs) {L : List Int} (hL : L ∈ zs) : ixP zs L < zs.length ∧ ent zs (ixP zs L) = L ∧ fndI zs L = (ixP zs L : Int) := by
  obtain ⟨i, hi, rfl⟩ := mem_ent hL
  rw [ixP_at hs hi]
  exact ⟨hi, rfl, fndI_at hs hi rfl⟩
/-- the class of a chart -/
def kC (zs : List (List Int)) (cs : List Int) (L : List Int) : Int := ofL cs (ixP zs L)
/-- what the classes of two charts do by a third one -/
def ag3 (zs : List (List Int)) (cs : List Int) (L M K : List Int) : Bool := decide (kC zs cs (tiL L K) = kC zs cs (tiL M K)) && decide (kC zs cs (tiL K L) = kC zs cs (tiL K M))
def cpB (zs : List (List Int)) (cs : List Int) : Bool := zs.all (fun L => zs.all (fun M => !decide (kC zs cs L = kC zs cs M) || zs.all (ag3 zs cs L M)))
theorem cpB_iff {zs : List (List Int)} {cs : List Int} : cpB zs cs = true ↔ ∀ L ∈ zs, ∀ M ∈ zs, kC zs cs L = kC zs cs M → ∀ K ∈ zs, kC zs cs (tiL L K) = kC zs cs (tiL M K) ∧ kC zs cs (tiL K L) = kC zs cs (tiL K M) := by
  unfold cpB ag3
  simp only [List.all_eq_true, Bool.or_eq_true, Bool.not_eq_true', decide_eq_false_iff_not, Bool.and_eq_true, decide_eq_true_eq]
  constructor
  · intro h L hL M hM e K hK
    rcases h L hL M hM with h1 | h1
    · exact absurd e h1
    · exact h1 K hK
  · intro h L hL M hM
    by_cases e : kC zs cs L = kC zs cs M
    · exact .inr (h L hL M hM e)
    · exact .inl e
def cgB (zs : List (List Int)) (cs : List Int) : Bool := sgS zs && decide (cs.length = zs.length) && decide (nuL (ofL cs) zs.length = cs) && cpB zs cs
structure Cg (zs : List (List Int)) (cs : List Int) : Prop where
  sg : sgS zs = true
  len : cs.length = zs.length
  nu : nuL (ofL cs) zs.length = cs
  cp : ∀ L ∈ zs, ∀ M ∈ zs, kC zs cs L = kC zs cs M → ∀ K ∈ zs, kC zs cs (tiL L K) = kC zs cs (tiL M K) ∧ kC zs cs (tiL K L) = kC zs cs (tiL K M)
theorem cgB_iff {zs : List (List Int)} {cs : List Int} : cgB zs cs = true ↔ Cg zs cs := by
  unfold cgB
  rw [Bool.and_eq_true, Bool.and_eq_true, Bool.and_eq_true, decide_eq_true_eq, decide_eq_true_eq, cpB_iff]
  exact ⟨fun h => ⟨h.1.1.1, h.1.1.2, h.1.2, h.2⟩, fun h => ⟨⟨⟨h.sg, h.len⟩, h.nu⟩, h.cp⟩⟩
/-- the specification asks each chart against the first one of its class -/
def o3B (zs : List (List Int)) (cs : List Int) (i k j : Nat) : Bool := ag3 zs cs (ent zs i) (ent zs k) (ent zs j)
def o2B (zs : List (List Int)) (cs : List Int) (i : Nat) : Bool := decide (fsE (ofL cs) i = i) || (List.range zs.length).all (o3B zs cs i (fsE (ofL cs) i))
theorem o2_all {zs : List (List Int)} {cs : List Int} (hs : Srt zs) : (∀ i, i < zs.length → o2B zs cs i = true) ↔ cpB zs cs = true := by
  have hk : ∀ i, i < zs.length → kC zs cs (ent zs i) = ofL cs i := fun i hi => by unfold kC; rw [ixP_at hs hi]
  have ho : ∀ i k j, o3B zs cs i k j = true ↔ kC zs cs (tiL (ent zs i) (ent zs j)) = kC zs cs (tiL (ent zs k) (ent zs j)) ∧ kC zs cs (tiL (ent zs j) (ent zs i)) = kC zs cs (tiL (ent zs j) (ent zs k)) := fun i k j => by
    unfold o3B ag3; rw [Bool.and_eq_true, decide_eq_true_eq, decide_eq_true_eq]
  have h2 : ∀ i, o2B zs cs i = true ↔ ∀ j, j < zs.length → o3B zs cs i (fsE (ofL cs) i) j = true := fun i => by
    unfold o2B
    rw [Bool.or_eq_true, decide_eq_true_eq, List.all_eq_true]
    constructor
    · rintro (h | h) j hj
      · rw [h, ho]; exact ⟨rfl, rfl⟩
      · exact h j (List.mem_range.2 hj)
    · intro h; exact .inr (fun j hj => h j (List.mem_range.1 hj))
  rw [cpB_iff]
  constructor
  · intro h L hL M hM e K hK
    obtain ⟨i, hi, rfl⟩ := mem_ent hL
    obtain ⟨k, hk', rfl⟩ := mem_ent hM
    obtain ⟨j, hj, rfl⟩ := mem_ent hK
    rw [hk i hi, hk k hk', ← fsE_iff] at e
    have a := (ho _ _ _).1 ((h2 i).1 (h i hi) j hj)
    have b := (ho _ _ _).1 ((h2 k).1 (h k hk') j hj)
    rw [← e] at b
    exact ⟨a.1.trans b.1.symm, a.2.trans b.2.symm⟩
  · intro h i hi
    rw [h2]
    intro j hj
    have hf : fsE (ofL cs) i < zs.length := by have := fsE_le (ofL cs) i; omega
    exact (ho _ _ _).2 (h _ (ent_mem hi) _ (ent_mem hf) (by rw [hk i hi, hk _ hf, fsE_at (ofL cs) i]) _ (ent_mem hj))
theorem cgB_spec {zs : List (List Int)} {cs : List Int} (hS : sgS zs = true) (hl : cs.length = zs.length) (hn : nuL (ofL cs) zs.length = cs) : cgB zs cs = true ↔ ∀ i, i < zs.length → o2B zs cs i = true := by
  rw [o2_all (sgS_iff.1 hS).srt]
  unfold cgB
  rw [hS, decide_eq_true hl, decide_eq_true hn]
  simp
end

/-! Marks on classes: a map in which each class keeps the first mark that it is given. Mathematics: no program. -/
section
set_option linter.unusedSectionVars false
open Go.Maps

section
variable {H : Type}
/-- a mark is put where there is none -/
def mrk (D : DataW H) (x : Lit) (v : Int) : DataW H := if Maps.has D x = true then D else D.put x (.lit (.int .i64 v))
/-- the mark that is there then -/
def mrkV (D : DataW H) (x : Lit) (v z : Int) : Prop := (Maps.has D x = true → D.atKey x (.lit (.int .i64 0)) = .lit (.int .i64 z)) ∧ (Maps.has D x = false → z = v)
theorem mrk_tidy {D : DataW H} (h : Maps.Tidy D) {x : Lit} (hx : WideAt.IsKeyLit x) (v : Int) : Maps.Tidy (mrk D x v) := by
  unfold mrk; split
  · exact h
  · exact h.put hx _
theorem mrk_has {D : DataW H} (h : Maps.Tidy D) {x : Lit} (hx : WideAt.IsKeyLit x) (v : Int) (y : Lit) : Maps.has (mrk D x v) y = true ↔ Maps.has D y = true ∨ y = x := by
  unfold mrk
  by_cases hh : Maps.has D x = true
  · rw [if_pos hh]
    constructor
    · exact .inl
    · rintro (h | rfl)
      · exact h
      · exact hh
  · rw [if_neg hh]
    by_cases e : y = x
    · subst e
      rw [Maps.has_put_same h.isMap hx]
      exact ⟨fun _ => .inr rfl, fun _ => rfl⟩
    · rw [Maps.has_put_other e]
      exact ⟨.inl, fun h => h.elim id (fun h => absurd h e)⟩
theorem mrk_old {D : DataW H} {x y : Lit} (v : Int) (hy : Maps.has D y = true) (u : DataW H) : (mrk D x v).atKey y u = D.atKey y u := by
  unfold mrk
  by_cases hh : Maps.has D x = true
  · rw [if_pos hh]
  · rw [if_neg hh]
    have hne : y ≠ x := fun e => hh (by rw [← e]; exact hy)
    exact Maps.atKey_put_other hne _ _
theorem mrk_new {D : DataW H} (h : Maps.Tidy D) {x : Lit} (hx : WideAt.IsKeyLit x) {v z : Int} (hv : mrkV D x v z) : (mrk D x v).atKey x (.lit (.int .i64 0)) = .lit (.int .i64 z) := by
  by_cases hh : Maps.has D x = true
  · rw [mrk_old v hh]; exact hv.1 hh
  · unfold mrk
    have e : z = v := hv.2 (by cases e : Maps.has D x <;> simp_all)
    rw [if_neg hh, Maps.atKey_put_same h.isMap hx, e]
theorem mrk_size {D : DataW H} (h : Maps.Tidy D) (x : Lit) (v : Int) : Maps.size (mrk D x v) = if Maps.has D x then Maps.size D else Maps.size D + 1 := by
  unfold mrk
  cases e : Maps.has D x with
  | true => simp
  | false => rw [if_neg (by simp), Maps.size_put h, e]
end
section
variable {H : Type} {α : Type} [DecidableEq α]
/-- the marks of the first k of some classes -/
def mrD (c : Nat → α) (kf : α → Lit) (v : Nat → Int) : Nat → DataW H
  | 0 => .map []
  | k + 1 => mrk (mrD c kf v k) (kf (c k)) (v k)
variable {c : Nat → α} {kf : α → Lit} {v : Nat → Int} {n : Nat}
theorem mrD_tidy (hk : ∀ x, WideAt.IsKeyLit (kf x)) : ∀ k, Maps.Tidy (mrD (H := H) c kf v k)
  | 0 => Maps.tidy_empty
  | k + 1 => mrk_tidy (mrD_tidy hk k) (hk _) _
theorem mrD_has (hk : ∀ x, WideAt.IsKeyLit (kf x)) {x : Lit} : ∀ k, Maps.has (mrD (H := H) c kf v k) x = true ↔ ∃ j, j < k ∧ kf (c j) = x
  | 0 => by simp [mrD, Maps.has]
  | k + 1 => by
    show Maps.has (mrk (mrD c kf v k) (kf (c k)) (v k)) x = true ↔ _
    rw [mrk_has (mrD_tidy hk k) (hk _), mrD_has hk k]
    constructor
    · rintro (⟨j, hj, e⟩ | rfl)
      · exact ⟨j, by omega, e⟩
      · exact ⟨k, by omega, rfl⟩
    · rintro ⟨j, hj, e⟩
      rcases Nat.lt_or_eq_of_le (Nat.le_of_lt_succ hj) with h | rfl
      · exact .inl ⟨j, h, e⟩
      · exact .inr e.symm
theorem mrD_cl (hk : ∀ x, WideAt.IsKeyLit (kf x)) (hinj : ∀ i j, i < n → j < n → kf (c i) = kf (c j) → c i = c j) {k : Nat} (hkn : k < n) : Maps.has (mrD (H := H) c kf v k) (kf (c k)) = true ↔ fsE c k < k := by
  rw [mrD_has hk k]
  constructor
  · rintro ⟨j, hj, e⟩
    have e := hinj _ _ (by omega) hkn e
    have h1 := fsE_none c k j
    rcases Nat.lt_or_ge j (fsE c k) with g | g
    · exact absurd e (h1 g)
    · omega
  · intro h
    exact ⟨fsE c k, h, by rw [fsE_at c k]⟩
theorem mrD_at (hk : ∀ x, WideAt.IsKeyLit (kf x)) (hinj : ∀ i j, i < n → j < n → kf (c i) = kf (c j) → c i = c j) : ∀ k, k ≤ n → ∀ j, j < k → (mrD (H := H) c kf v k).atKey (kf (c j)) (.lit (.int .i64 0)) = .lit (.int .i64 (v (fsE c j)))
  | 0, _, j, h => absurd h (Nat.not_lt_zero _)
  | k + 1, hkn, j, hj => by
    show (mrk (mrD c kf v k) (kf (c k)) (v k)).atKey _ _ = _
    by_cases h : j < k
    · rw [mrk_old _ ((mrD_has hk k).2 ⟨j, h, rfl⟩)]
      exact mrD_at hk hinj k (by omega) j h
    · obtain rfl : j = k := by omega
      refine mrk_new (mrD_tidy hk j) (hk _) ⟨fun hh => ?_, fun hh => ?_⟩
      · have hf := (mrD_cl hk hinj (by omega)).1 hh
        have := mrD_at hk hinj j (by omega) (fsE c j) hf
        rw [fsE_at c j, fsE_first] at this
        exact this
      · have hf : ¬ fsE c j < j := fun h => by rw [(mrD_cl (H := H) (v := v) hk hinj (by omega)).2 h] at hh; cases hh
        rw [show fsE c j = j by have := fsE_le c j; omega]
theorem mrD_size (hk : ∀ x, WideAt.IsKeyLit (kf x)) (hinj : ∀ i j, i < n → j < n → kf (c i) = kf (c j) → c i = c j) : ∀ k, k ≤ n → Maps.size (mrD (H := H) c kf v k) = frC c k
  | 0, _ => rfl
  | k + 1, hkn => by
    show Maps.size (mrk (mrD c kf v k) (kf (c k)) (v k)) = _
    rw [mrk_size (mrD_tidy hk k), mrD_size hk hinj k (by omega)]
    have h := mrD_cl (H := H) (v := v) hk hinj (show k < n by omega)
    by_cases hf : fsE c k < k
    · rw [if_pos (h.2 hf), frC_same (by omega)]
    · rw [if_neg (fun e => hf (h.1 e)), frC_next (by have := fsE_le c k; omega)]
/-- the mark that the next class has -/
theorem mrD_val (hk : ∀ x, WideAt.IsKeyLit (kf x)) (hinj : ∀ i j, i < n → j < n → kf (c i) = kf (c j) → c i = c j) {k : Nat} (hkn : k < n) {z : Int} (hz : mrkV (mrD (H := H) c kf v k) (kf (c k)) (v k) z) : z = v (fsE c k) := by
  have h1 := mrk_new (mrD_tidy hk k) (hk _) hz
  have h2 := mrD_at (H := H) (v := v) hk hinj (k + 1) (by omega) k (by omega)
  have h3 := h1.symm.trans h2
  injection h3 with h3
  injection h3
end
section
open Go.ChangeMaps Go.MapKept Go.WideShapes
variable {H : Type} {P : Program} (w : World) {ops : Array Oper} {rest : List Oper} {o : Oper} {a : Act} {Q : Exit → Act → World → Prop}
/-- clear(m): nothing is left in the map -/
theorem clear_run {t k e : TypeId} {R : Value → Option (DataW H × List MemPlace)} {b n : Nat} {D : DataW H} (ht : P.underlying t = some (.map k e)) (hown : w.ownsMap P k R b n D) (ty : TypeId) :
    ∃ w', (Builtin.clear_ #[t] ty #[.map (some b)]).run P w = .ok (.tuple #[]) w' ∧ w'.ownsMap P k R b 0 (.map []) ∧ w.grownBy w' (some b) := by
  obtain ⟨es, clock, hb, F, hs, rfl⟩ := hown
  refine ⟨setBlock w b (.map #[] clock), ?_, ⟨#[], clock, heap_setBlock_same hb _, ⟨by simp, stamped_empty clock, by simp⟩, Nat.le_refl _, rfl⟩, World.mapTurned.grown ⟨es, clock, #[], clock, hb, rfl⟩⟩
  simp [Builtin.clear_, run_underlying ht, Go.MapKept.run_getObj_map hb, Go.MapKept.run_setObj_map _ hb, Result.andThen]
  rfl
theorem wpList_clear_own (hg : o.guard = none) (m : Operand) (t : TypeId) (hop : o.op = Op.call { callee := Callee.builtin Builtin.clear, args := #[m], argTypes := #[t] })
    (k e : TypeId) (ht : P.underlying t = some (.map k e)) (R : Value → Option (DataW H × List MemPlace)) (b n : Nat) (D : DataW H)
    (hm : a.eval m = .map (some b)) (hown : w.ownsMap P k R b n D)
    (hK : ∀ w', w'.ownsMap P k R b 0 (.map []) → w.grownBy w' (some b) → wpList P ops Q rest (a.put o.dst (.tuple #[])) w') :
    wpList P ops Q (o :: rest) a w := by
  refine wpList_plain hg fun K' hK' => ?_
  obtain ⟨w', hrun, r1, r2⟩ := clear_run w ht hown o.type
  unfold Oper.wp
  simp [execOp, hop, resolve, invoke, builtin, hm, hrun, Result.andThen]
  exact hK' _ _ (hK w' r1 r2)
end
end

/-! spec.l8Numbers: class numbers in order. -/
section
open Go.RowKit

set_option maxHeartbeats 1000000 in
theorem l8Numbers_any (A : Option Addr) (n c : Nat) (rs : List Int) (w : World) (h : RI w A n rs) (hn : n ≤ 1048576) :
    Calls Tryz.prog 47 #[.slice A n c] w fun e w' => ∃ v, e = .returned v ∧ w'.ownsRow w.heap.size 3 1 v n (ivs (nuL (ofL rs) n)) ∧ Below w.heap.size w w' := by
  obtain ⟨i0, hi, hz0, hz1, hz2⟩ := info_parts info_int
  have HR := Lib.hid h
  have hL0 : (w.alloc (.cells #[] 3)).ownsRow w.heap.size 3 1 (.slice (some ⟨w.heap.size, 0, none⟩) 0 0) 0 [] := World.ownsRow_lit (base := w.heap.size) (e := 3) (size := 1) w #[] 0 (Nat.le_refl _) (by simp [maxLen]) rfl
  have hB0 := (Below.refl _ w).alloc (Nat.le_refl _) (.cells #[] 3)
  clear h
  go_enter Tryz.func47, Tryz.ntmps47
  go_wp2
  go_loopw [3, 4, 5] (fun v s i wr => ∃ k : Nat, k ≤ n ∧ i = .int .i64 (k : Int) ∧ s = .int .i64 (frC (ofL rs) k : Nat) ∧ wr.ownsRow w.heap.size 3 1 v k (ivs (nuL (ofL rs) k)) ∧ Below w.heap.size w wr) (fun _ _ i _ => n - (intOf i).toNat)
  case atStart => exact ⟨0, Nat.zero_le _, rfl, rfl, hL0, hB0⟩
  case round =>
    clear hL0 hB0
    obtain ⟨i, hin, rfl, rfl, hown, hB⟩ := hrel
    by_cases hlt : i < n
    · have hii : (i : Int) < (n : Int) := by omega
      obtain ⟨ax, rfl, _, _⟩ := (HR.out.below hB).at_ hlt
      have HRR : Hid (∀ q j, j < n → (wr.drewN q).cell? (ax.add j) = some (.int .i64 (ofL rs j))) := fun q j hj => by
        obtain ⟨ax', e, _, hc⟩ := (HR.out.below hB).at_ hj
        obtain rfl := Option.some.inj e
        exact hc
      obtain ⟨Ao, co, rfl⟩ := own_slice hown
      have HOO : Hid (∀ q j, j < i → ∃ ao, Ao = some ao ∧ (wr.drewN q).cell? (ao.add j) = some (.int .i64 (nuE (ofL rs) j : Nat))) := fun q j hj => by
        obtain ⟨ao, e, _, hc⟩ := (RI.of_own hown).at_ hj
        refine ⟨ao, e, ?_⟩
        rw [nuL_get _ hj] at hc
        exact hc
      have HOW : Hid (∀ q, (wr.drewN q).ownsRow w.heap.size 3 1 (.slice Ao i co) i (ivs (nuL (ofL rs) i)) ∧ Below w.heap.size w (wr.drewN q)) := fun q => ⟨own_below hown (below_drewN (Below.refl _ _) q), below_drewN hB q⟩
      have HST : Hid (∀ z : Nat, z = nuE (ofL rs) i → ivs (nuL (ofL rs) i) ++ [.int .i64 (z : Int)] = ivs (nuL (ofL rs) (i + 1))) := fun z hz => by
        subst hz; rw [nuL_snoc]; simp [ivs]
      have hfl := frC_le (ofL rs) i
      clear hown hB
      go_wp2
      go_loopw [6, 7] (fun v s wq => ∃ (k : Nat) (z : Int), k ≤ i ∧ v = .int .i64 z ∧ s = .int .i64 (k : Int) ∧ Hid ((z = -1 ∧ ∀ j, j < k → ofL rs j ≠ ofL rs i) ∨ (z = (nuE (ofL rs) i : Int) ∧ fsE (ofL rs) i < i)) ∧ ∃ q, wq = wr.drewN q) (fun _ s _ => i - (intOf s).toNat)
      case atStart => exact ⟨0, -1, Nat.zero_le _, rfl, rfl, Lib.hid (.inl ⟨rfl, fun j hj => absurd hj (Nat.not_lt_zero _)⟩), 0, rfl⟩
      case round =>
        obtain ⟨k, z, hki, rfl, rfl, HZ, q, hw⟩ := hrel
        have HO2 := HOW.out q
        rw [← hw] at HO2
        obtain ⟨hown, hB⟩ := HO2
        have h1 : i + 1 ≤ maxLen := by unfold maxLen; omega
        have h2 : (i + 1) * 8 ≤ 140737488355328 := by omega
        have h3 : ∀ o : Obj, w.heap.size ≤ (wr.alloc o).heap.size := fun o => by have := hB.size; simp; omega
        have HFIN : Hid (∀ (z : Nat) (v' : Value) (w1 : World), z = nuE (ofL rs) i → w1.ownsRow w.heap.size 3 1 v' (i + 1) (ivs (nuL (ofL rs) i) ++ [.int .i64 (z : Int)]) → (wr.alloc (.cells #[.int .i64 (z : Int)] 3)).grownBy w1 (Value.slice Ao i co).ownBlock → w1.ownsRow w.heap.size 3 1 v' (i + 1) (ivs (nuL (ofL rs) (i + 1))) ∧ Below w.heap.size w w1) := fun z v' w1 hz ho hg => by
          rw [HST.out z hz] at ho
          exact ⟨ho, (hB.alloc hB.size _).grown hg (h3 _) (fun g e => (hown.lt g e).1)⟩
        by_cases hz : z < 0
        · by_cases hkl : k < i
          · have hkk : (k : Int) < (i : Int) := by omega
            have hkn : (k : Int) < (n : Int) := by omega
            have HW := Lib.hid hw
            have a1 := HRR.out q k (by omega)
            have a2 := HRR.out q i hlt
            obtain ⟨ao, rfl, ho⟩ := HOO.out q k hkl
            rw [← hw] at a1 a2 ho
            have HN : Hid (∀ j, j < k → ofL rs j ≠ ofL rs i) := by
              rcases HZ.out with h | h
              · exact h.2
              · have := h.1; omega
            by_cases he : ofL rs k = ofL rs i
            · have hc : (ofL rs k == ofL rs i) = true := by simp [he]
              have hfe : fsE (ofL rs) i = k := fsE_is hki he HN.out
              have HE : Hid ((nuE (ofL rs) k : Int) = (nuE (ofL rs) i : Int) ∧ fsE (ofL rs) i < i) := ⟨by rw [nu_of he], by omega⟩
              clear he hfe hw HZ
              generalize ofL rs k = x at *
              generalize hyy : ofL rs i = y at *
              clear hyy
              go_wp2
              go_quiet (fail)
              have g1 : (wr.drewN nq).cell? (ao.add k) = some (.int .i64 (nuE (ofL rs) k : Nat)) := ho
              go_wp2
              go_roundw
              case rel => exact ⟨k + 1, _, by omega, rfl, by go_num, Lib.hid (.inr HE.out), drawn_on HW.out _⟩
              case measure => simp [intOf]; omega
            · have hc : (ofL rs k == ofL rs i) = false := by simp [he]
              have HN2 : Hid (∀ j, j < k + 1 → ofL rs j ≠ ofL rs i) := fun j hj => by
                rcases Nat.lt_or_ge j k with h | h
                · exact HN.out j h
                · rw [show j = k by omega]; exact he
              have hz1 : z = -1 := by
                rcases HZ.out with h | h
                · exact h.1
                · have := h.1; omega
              have HZ1 := Lib.hid hz1
              clear he hw HZ hz1
              go_wp2
              go_quiet (fail)
              all_goals go_wp2
              go_roundw
              case rel => exact ⟨k + 1, z, by omega, rfl, by go_num, Lib.hid (.inl ⟨HZ1.out, HN2.out⟩), drawn_on HW.out _⟩
              case measure => simp [intOf]; omega
          · have hk2 : k = i := by omega
            have hkk : ¬ (k : Int) < (i : Int) := by omega
            have hf : fsE (ofL rs) i = i := by
              rcases HZ.out with h | h
              · exact fsE_is (Nat.le_refl _) rfl (fun j hj => h.2 j (by omega))
              · have := h.1; omega
            have HNX : Hid (frC (ofL rs) (i + 1) = frC (ofL rs) i + 1) := frC_next hf
            have HNU : Hid (frC (ofL rs) i = nuE (ofL rs) i) := (nu_new hf).symm
            clear hf hk2 HZ hw
            generalize frC (ofL rs) i = m at *
            go_wp2_with (at_builtin; refine wpList_append_own _ rfl _ _ 24 rfl w.heap.size 3 i0 (.int .i64 0) 1 8 Tryz.underlying24 hi hz0 hz1 hz2 rfl (by decide) _ _ _ rfl (hown.alloc _) ⟨wr.heap.size, 0, none⟩ 1 1 [.int .i64 (m : Int)] rfl rfl (cell_one_new _ _ _) (by simp [Value.oneCell']) h1 h2 (h3 _) ?_; intro v' w1 hown' hgrow _)
            have hfi := HFIN.out m v' w1 HNU.out hown' hgrow
            go_roundw
            case rel => exact ⟨i + 1, by omega, by go_num, by rw [HNX.out]; go_num, hfi.1, hfi.2⟩
            case measure => simp [intOf]; omega
        · obtain ⟨m, rfl⟩ : ∃ m : Nat, z = (m : Int) := ⟨z.toNat, by omega⟩
          have hzz : ¬ (m : Int) < 0 := by omega
          have HNU : Hid (m = nuE (ofL rs) i ∧ fsE (ofL rs) i < i) := by
            rcases HZ.out with h | h
            · have := h.1; omega
            · exact ⟨by have := h.1; omega, h.2⟩
          have HNX : Hid (frC (ofL rs) (i + 1) = frC (ofL rs) i) := frC_same (by have := HNU.out.2; omega)
          clear HZ hw hz
          generalize frC (ofL rs) i = m2 at *
          rcases Decidable.em ((k : Int) < (i : Int)) with hkk | hkk
          all_goals
            go_wp2_with (at_builtin; refine wpList_append_own _ rfl _ _ 24 rfl w.heap.size 3 i0 (.int .i64 0) 1 8 Tryz.underlying24 hi hz0 hz1 hz2 rfl (by decide) _ _ _ rfl (hown.alloc _) ⟨wr.heap.size, 0, none⟩ 1 1 [.int .i64 (m : Int)] rfl rfl (cell_one_new _ _ _) (by simp [Value.oneCell']) h1 h2 (h3 _) ?_; intro v' w1 hown' hgrow _)
            have hfi := HFIN.out m v' w1 HNU.out.1 hown' hgrow
            go_roundw
            case rel => exact ⟨i + 1, by omega, by go_num, by rw [HNX.out], hfi.1, hfi.2⟩
            case measure => simp [intOf]; omega
    · obtain rfl : i = n := by omega
      have hii : ¬ (i : Int) < (i : Int) := by omega
      go_wp2
      go_ret
      exact ⟨_, rfl, hown, hB⟩
end

/-! spec.l7Germ, spec.l7Moves, spec.GermSame. -/
section
open Go.RowKit Go.Maps

/-- a chart below both that moves the point -/
def gmP (f g : List Int) (p : Nat) (L : List Int) : Bool := decide (0 ≤ ofL L p) && (beB L f && beB L g)
def gmB (zs : List (List Int)) (f g : List Int) (p : Nat) : Bool := zs.any (gmP f g p)
def mvD (zs : List (List Int)) (f : List Int) (p : Int) : Bool := decide (f ∈ zs) && (inB p 0 ((f.length : Int) - 1) && decide (0 ≤ ofL f p.toNat))
def gsB (zs : List (List Int)) (f g : List Int) (p : Int) : Bool := sgS zs && (mvD zs f p && (mvD zs g p && gmB zs f g p.toNat))
theorem any_step2 {zs : List (List Int)} {p : List Int → Bool} {k : Nat} (hk : k < zs.length) : (zs.take (k + 1)).any p = ((zs.take k).any p || p (ent zs k)) := by
  have e : ent zs k = zs[k] := by unfold ent; rw [List.getElem?_eq_getElem hk]; rfl
  rw [List.take_succ_eq_append_getElem hk, List.any_append, e]; simp
end

/-! (impl.arrows).leastObject, (impl.arrow).germ; slices.Index and slices.Contains of arrows. -/
section
open Go.RowKit Go.Maps

def ldN (Ls : List (List Int)) : Nat := Ls.foldl (fun m L => m &&& doN L) 63
theorem ldN_step {Ls : List (List Int)} {k : Nat} {L : List Int} (h : Ls[k]? = some L) : ldN (Ls.take (k + 1)) = ldN (Ls.take k) &&& doN L := by
  unfold ldN
  rw [List.take_add_one, h, Option.toList_some, List.foldl_append]
  rfl
theorem foldl_and_le : ∀ (Ls : List (List Int)) (m : Nat), m < 64 → Ls.foldl (fun m L => m &&& doN L) m < 64
  | [], _, h => h
  | L :: Ls, m, h => foldl_and_le Ls _ (Nat.lt_of_le_of_lt Nat.and_le_left h)
theorem ldN_64 (Ls : List (List Int)) : ldN Ls < 64 := foldl_and_le Ls 63 (by omega)
theorem and64_fin : ∀ (a b : Fin 64), bits BinOp.and IntKind.i64 (a.val : Int) (b.val : Int) = ((a.val &&& b.val : Nat) : Int) := by decide +kernel
theorem and64_is {a b : Nat} (ha : a < 64) (hb : b < 64) : bits BinOp.and IntKind.i64 (a : Int) (b : Int) = ((a &&& b : Nat) : Int) := and64_fin ⟨a, ha⟩ ⟨b, hb⟩
set_option maxHeartbeats 1000000 in
theorem leastObj_any (m lo : Nat) (v : Value) (Ls : List (List Int)) (hq : Ls.length ≤ 1048576) (w : World) (hown : w.ownsRow lo 142 9 v Ls.length (awc m Ls)) :
    Calls Tryz.prog 100 #[v] w fun e w' => e = .returned (.int .i64 (ldN Ls : Nat)) ∧ Below w.heap.size w w' := by
  obtain ⟨A, cp, rfl⟩ := own_shape hown
  have HOW := Lib.hid hown
  clear hown
  go_enter Tryz.func100, Tryz.ntmps100
  go_wp2
  go_loopw [3, 8] (fun v i wr => ∃ k : Nat, k ≤ Ls.length ∧ i = .int .i64 (k : Int) ∧ v = .int .i64 ((ldN (Ls.take k) : Nat) : Int) ∧ Below w.heap.size w wr) (fun _ i _ => Ls.length - (intOf i).toNat)
  case atStart => exact ⟨0, Nat.zero_le _, rfl, rfl, Below.refl _ _⟩
  case round =>
    obtain ⟨k, hk, rfl, rfl, hB⟩ := hrel
    by_cases hlt : k < Ls.length
    · obtain ⟨L, hL⟩ : ∃ L, Ls[k]? = some L := ⟨_, List.getElem?_eq_getElem hlt⟩
      have hr1 := own_below HOW.out hB
      obtain ⟨g1, cp1, hv, _, hg1⟩ := hr1.form (by omega)
      injection hv with hv1 _ hv3
      subst hv1
      have hC1 : Ars wr g1 m Ls := Ars.of_own hr1
      obtain ⟨c0, c1, c2, c3, c4, c5, c6, c7, c8⟩ := hC1.all hL
      have HT := Lib.hid (ldN_step hL)
      have hB1 := hB.alloc hB.size (.cells #[.int .i64 ((m : Int)), .int .i64 (ofL L 0), .int .i64 (ofL L 1), .int .i64 (ofL L 2), .int .i64 (ofL L 3), .int .i64 (ofL L 4), .int .i64 (ofL L 5), .int .i64 ((doN L : Nat)), .int .i64 ((raN L : Nat))] 142)
      have HA := Lib.hid (and64_is (ldN_64 (Ls.take k)) (doN_64 L))
      clear hC1 hL hr1 hv3
      generalize ldN (Ls.take k) = ss at *
      go_wp2
      go_roundw
      case rel => exact ⟨k + 1, by omega, by go_num, by rw [HT.out, ← HA.out], hB1⟩
      case measure => simp [intOf]; omega
    · obtain rfl : k = Ls.length := by omega
      have HE : Hid (ldN (Ls.take Ls.length) = ldN Ls) := by show _ = _; rw [List.take_of_length_le (Nat.le_refl _)]
      go_wp2
      go_ret
      exact ⟨by rw [← HE.out]; rfl, hB⟩
theorem bel_put7 {B : Nat} {a W : World} {g : Nat} (h : Below B a W) (hg : B ≤ g) (v0 v1 v2 v3 v4 v5 v6 : Value) :
    Below B a (((((((W.setCell ⟨g, 0, none⟩ v0).setCell ⟨g, 1, none⟩ v1).setCell ⟨g, 2, none⟩ v2).setCell ⟨g, 3, none⟩ v3).setCell ⟨g, 4, none⟩ v4).setCell ⟨g, 5, none⟩ v5).setCell ⟨g, 6, none⟩ v6) :=
  ((((((h.setCell (p := ⟨g, 0, none⟩) hg v0).setCell (p := ⟨g, 1, none⟩) hg v1).setCell (p := ⟨g, 2, none⟩) hg v2).setCell (p := ⟨g, 3, none⟩) hg v3).setCell (p := ⟨g, 4, none⟩) hg v4).setCell (p := ⟨g, 5, none⟩) hg v5).setCell (p := ⟨g, 6, none⟩) hg v6
end

/-! slices.Index and slices.Contains of arrows. -/
section
open Go.RowKit Go.Maps

set_option maxHeartbeats 400000 in
theorem arr_eq8 (a0 a1 a2 a3 a4 a5 b0 b1 b2 b3 b4 b5 : Int) (w : World) :
    (Op.equalIn 9998 56 (.agg #[.int .i64 a0, .int .i64 a1, .int .i64 a2, .int .i64 a3, .int .i64 a4, .int .i64 a5]) (.agg #[.int .i64 b0, .int .i64 b1, .int .i64 b2, .int .i64 b3, .int .i64 b4, .int .i64 b5])).run Tryz.prog w = .ok (a0 == b0 && (a1 == b1 && (a2 == b2 && (a3 == b3 && (a4 == b4 && a5 == b5))))) w := by
  obtain ⟨i0, hi, hz0, hz1, hz2⟩ := info_parts info_int
  have hc : Tryz.prog.cellsOf 3 = 1 := by kernel_rfl
  have hpk : Tryz.prog.plainKey 3 = true := by kernel_rfl
  have hp : ∀ (xs : Array Value) (j : Nat) (v : Value) (W : World), xs[j]? = some v → (part 3 xs j).run Tryz.prog W = .ok v W := fun xs j v W h => run_part_plain W hpk h
  rw [run_equalIn_array w 9997 _ _ Tryz.underlying56 hi]
  have q0 := fun W => hp #[Value.int .i64 a0, .int .i64 a1, .int .i64 a2, .int .i64 a3, .int .i64 a4, .int .i64 a5] 0 _ W rfl
  have q1 := fun W => hp #[Value.int .i64 a0, .int .i64 a1, .int .i64 a2, .int .i64 a3, .int .i64 a4, .int .i64 a5] 1 _ W rfl
  have q2 := fun W => hp #[Value.int .i64 a0, .int .i64 a1, .int .i64 a2, .int .i64 a3, .int .i64 a4, .int .i64 a5] 2 _ W rfl
  have q3 := fun W => hp #[Value.int .i64 a0, .int .i64 a1, .int .i64 a2, .int .i64 a3, .int .i64 a4, .int .i64 a5] 3 _ W rfl
  have q4 := fun W => hp #[Value.int .i64 a0, .int .i64 a1, .int .i64 a2, .int .i64 a3, .int .i64 a4, .int .i64 a5] 4 _ W rfl
  have q5 := fun W => hp #[Value.int .i64 a0, .int .i64 a1, .int .i64 a2, .int .i64 a3, .int .i64 a4, .int .i64 a5] 5 _ W rfl
  have r0 := fun W => hp #[Value.int .i64 b0, .int .i64 b1, .int .i64 b2, .int .i64 b3, .int .i64 b4, .int .i64 b5] 0 _ W rfl
  have r1 := fun W => hp #[Value.int .i64 b0, .int .i64 b1, .int .i64 b2, .int .i64 b3, .int .i64 b4, .int .i64 b5] 1 _ W rfl
  have r2 := fun W => hp #[Value.int .i64 b0, .int .i64 b1, .int .i64 b2, .int .i64 b3, .int .i64 b4, .int .i64 b5] 2 _ W rfl
  have r3 := fun W => hp #[Value.int .i64 b0, .int .i64 b1, .int .i64 b2, .int .i64 b3, .int .i64 b4, .int .i64 b5] 3 _ W rfl
  have r4 := fun W => hp #[Value.int .i64 b0, .int .i64 b1, .int .i64 b2, .int .i64 b3, .int .i64 b4, .int .i64 b5] 4 _ W rfl
  have r5 := fun W => hp #[Value.int .i64 b0, .int .i64 b1, .int .i64 b2, .int .i64 b3, .int .i64 b4, .int .i64 b5] 5 _ W rfl
  have hq : ∀ (a b : Int) (W : World), (Op.equalIn 9997 3 (.int .i64 a) (.int .i64 b)).run Tryz.prog W = .ok (a == b) W := fun a b W => run_equalIn_int W 9996 3 .i64 .i64 a b Tryz.underlying3
  clear hp
  simp [Op.eqItems, hc, List.range_succ, q0, q1, q2, q3, q4, q5, r0, r1, r2, r3, r4, r5, hq]
  by_cases h0 : a0 = b0 <;> by_cases h1 : a1 = b1 <;> by_cases h2 : a2 = b2 <;> by_cases h3 : a3 = b3 <;> by_cases h4 : a4 = b4 <;> by_cases h5 : a5 = b5 <;> simp [h0, h1, h2, h3, h4, h5]
def eqAr (k0 m : Nat) (T : Nat → Int) (x y : Int) (L : List Int) : Bool := decide ((k0 : Int) = (m : Int)) && ((T 0 == ofL L 0 && (T 1 == ofL L 1 && (T 2 == ofL L 2 && (T 3 == ofL L 3 && (T 4 == ofL L 4 && T 5 == ofL L 5))))) && (decide (x = ((doN L : Nat) : Int)) && decide (y = ((raN L : Nat) : Int))))
theorem any_step3 {zs : List (List Int)} {p : List Int → Bool} {k : Nat} {L : List Int} (h : zs[k]? = some L) : (zs.take (k + 1)).any p = ((zs.take k).any p || p L) := by
  rw [List.take_add_one, h, Option.toList_some, List.any_append]; simp
end

/-! GermSame of the program. -/
section
open Go.RowKit Go.Maps

theorem s18g {W : World} {x y k : Nat} {T G : Nat → Int} {t1 t2 u1 u2 : Int} (hx : Blk W x 142 #[.int .i64 ((k : Int)), .int .i64 (T 0), .int .i64 (T 1), .int .i64 (T 2), .int .i64 (T 3), .int .i64 (T 4), .int .i64 (T 5), .int .i64 (t1), .int .i64 (t2)]) (hy : Blk W y 142 #[.int .i64 ((k : Int)), .int .i64 (G 0), .int .i64 (G 1), .int .i64 (G 2), .int .i64 (G 3), .int .i64 (G 4), .int .i64 (G 5), .int .i64 (u1), .int .i64 (u2)]) :
    W.cell? ⟨x, 0, none⟩ = some (.int .i64 (k : Int)) ∧ W.cell? ⟨x, 1, none⟩ = some (.int .i64 (T 0)) ∧ W.cell? ⟨x, 2, none⟩ = some (.int .i64 (T 1)) ∧ W.cell? ⟨x, 3, none⟩ = some (.int .i64 (T 2)) ∧ W.cell? ⟨x, 4, none⟩ = some (.int .i64 (T 3)) ∧ W.cell? ⟨x, 5, none⟩ = some (.int .i64 (T 4)) ∧ W.cell? ⟨x, 6, none⟩ = some (.int .i64 (T 5)) ∧ W.cell? ⟨x, 7, none⟩ = some (.int .i64 (t1)) ∧ W.cell? ⟨x, 8, none⟩ = some (.int .i64 (t2)) ∧ W.cell? ⟨y, 0, none⟩ = some (.int .i64 (k : Int)) ∧ W.cell? ⟨y, 1, none⟩ = some (.int .i64 (G 0)) ∧ W.cell? ⟨y, 2, none⟩ = some (.int .i64 (G 1)) ∧ W.cell? ⟨y, 3, none⟩ = some (.int .i64 (G 2)) ∧ W.cell? ⟨y, 4, none⟩ = some (.int .i64 (G 3)) ∧ W.cell? ⟨y, 5, none⟩ = some (.int .i64 (G 4)) ∧ W.cell? ⟨y, 6, none⟩ = some (.int .i64 (G 5)) ∧ W.cell? ⟨y, 7, none⟩ = some (.int .i64 (u1)) ∧ W.cell? ⟨y, 8, none⟩ = some (.int .i64 (u2)) := ⟨hx.cell 0, hx.cell 1, hx.cell 2, hx.cell 3, hx.cell 4, hx.cell 5, hx.cell 6, hx.cell 7, hx.cell 8, hy.cell 0, hy.cell 1, hy.cell 2, hy.cell 3, hy.cell 4, hy.cell 5, hy.cell 6, hy.cell 7, hy.cell 8⟩
theorem ar9 {W : World} {g : Nat} {v0 v1 v2 v3 v4 v5 v6 v7 v8 : Value} (h' : Blk W g 142 #[v0, v1, v2, v3, v4, v5, v6, v7, v8]) :
    W.cell? ⟨g, 0, none⟩ = some v0 ∧ W.cell? ⟨g, 1, none⟩ = some v1 ∧ W.cell? ⟨g, 2, none⟩ = some v2 ∧ W.cell? ⟨g, 3, none⟩ = some v3 ∧ W.cell? ⟨g, 4, none⟩ = some v4 ∧ W.cell? ⟨g, 5, none⟩ = some v5 ∧ W.cell? ⟨g, 6, none⟩ = some v6 ∧ W.cell? ⟨g, 7, none⟩ = some v7 ∧ W.cell? ⟨g, 8, none⟩ = some v8 :=
  ⟨h'.cell 0, h'.cell 1, h'.cell 2, h'.cell 3, h'.cell 4, h'.cell 5, h'.cell 6, h'.cell 7, h'.cell 8⟩
theorem kcutQ {α : Type} {Q : Prop} (P : α → Prop) {F : α} (h1 : P F → Q) (h2 : P F) : Q := h1 h2
/-- the chart is among those that move the point -/
theorem cont_is {zs : List (List Int)} {p : Int} {f : List Int} {k : Nat} {T : Nat → Int} (hy : isC f = true → k = f.length ∧ ∀ j, j < 6 → T j = ofL f j) (hno : isC f = false → k = 0 ∧ ∀ j, j < 6 → T j = 0) :
    (atLs zs p).any (eqAr k (m0 zs) T (domL (mv T k) : Nat) (imN k T : Nat)) = decide (f ∈ atLs zs p) := by
  have hL : ∀ L ∈ atLs zs p, isC L = true ∧ L.length = m0 zs := fun L h => by
    obtain ⟨hS, _, _, hz, _⟩ := atLs_mem h
    exact (sgS_iff.1 hS).ch L hz
  cases hc : isC f
  · have hk := (hno hc).1
    rw [decide_eq_false (fun h => by have := (hL f h).1; rw [hc] at this; cases this)]
    rw [← Bool.not_eq_true, List.any_eq_true]
    rintro ⟨L, h1, h2⟩
    obtain ⟨c, l⟩ := hL L h1
    unfold eqAr at h2
    rw [Bool.and_eq_true, decide_eq_true_eq] at h2
    have := (isC_len c).1
    omega
  · obtain ⟨hk, hT⟩ := hy hc
    have h6 := (isC_len hc).2
    rw [Bool.eq_iff_iff, decide_eq_true_eq, List.any_eq_true]
    constructor
    · rintro ⟨L, h1, h2⟩
      obtain ⟨c, l⟩ := hL L h1
      have l6 := (isC_len c).2
      unfold eqAr at h2
      simp only [Bool.and_eq_true, decide_eq_true_eq, beq_iff_eq] at h2
      obtain ⟨e0, ⟨t0, t1, t2, t3, t4, t5⟩, _, _⟩ := h2
      have e : f = L := ofL_ext (n := f.length) rfl (by omega) (fun j hj => by
        rw [← hT j (by omega)]
        rcases (show j = 0 ∨ j = 1 ∨ j = 2 ∨ j = 3 ∨ j = 4 ∨ j = 5 by omega) with rfl | rfl | rfl | rfl | rfl | rfl
        · exact t0
        · exact t1
        · exact t2
        · exact t3
        · exact t4
        · exact t5)
      rw [e]; exact h1
    · intro h1
      obtain ⟨c, l⟩ := hL f h1
      have hcc := c9_of c l
      refine ⟨f, h1, ?_⟩
      unfold eqAr
      have hkm : k = m0 zs := by omega
      have e1 : domL (mv T k) = doN f := by rw [doN_congr (by omega) hT, hkm]; exact hcc.1
      have e2 : imN k T = raN f := by rw [imN_congr (by omega) hT, hkm]; exact hcc.2
      rw [e1, e2, hkm, hT 0 (by omega), hT 1 (by omega), hT 2 (by omega), hT 3 (by omega), hT 4 (by omega), hT 5 (by omega)]
      simp
def geB (f g : List Int) (ld : Nat) : Bool := decide (∀ j, j < f.length → ld.testBit j = true → ofL f j = ofL g j)
def giB (zs : List (List Int)) (f g : List Int) (p : Int) : Bool := decide (f ∈ atLs zs p) && (decide (g ∈ atLs zs p) && geB f g (ldN (atLs zs p)))
theorem cut_at {f : List Int} (h : isC f = true) {T T' : Nat → Int} (hT : ∀ j, j < 6 → T j = ofL f j) {ld : Nat} (hT' : ∀ j, j < 6 → T' j = cutL f.length ld (mv T f.length) j) : ∀ j, j < 6 → T' j = if j < f.length then (if ld.testBit j = true then ofL f j else -1) else 0 := fun j hj => by
  rw [hT' j hj, cut_closed _ _ _ _ _ (isC_len h).2]
  by_cases hl : j < f.length
  · rw [if_pos hl]
    have := isC_ent h j hl
    have h6 := (isC_len h).2
    rw [hT j hj]
    have e : ofL f j = f[j]?.getD 0 := rfl
    by_cases hb : ld.testBit j = true
    · rw [if_pos hb]
      by_cases h0 : 0 ≤ ofL f j
      · rw [if_pos ⟨⟨hl, h0, by omega⟩, hb⟩]
      · rw [if_neg (fun h => h0 h.1.2.1)]; unfold stillF; rw [if_pos hl]; omega
    · rw [if_neg hb, if_neg (fun h => hb h.2)]; unfold stillF; rw [if_pos hl]
  · rw [if_neg hl, if_neg (fun h => hl h.1.1)]; unfold stillF; rw [if_neg hl]
theorem ge_is {f g : List Int} (hf : isC f = true) (hg : isC g = true) (hl : f.length = g.length) {ld : Nat} {T' G' : Nat → Int}
    (h1 : ∀ j, j < 6 → T' j = if j < f.length then (if ld.testBit j = true then ofL f j else -1) else 0) (h2 : ∀ j, j < 6 → G' j = if j < g.length then (if ld.testBit j = true then ofL g j else -1) else 0) :
    (T' 0 == G' 0 && (T' 1 == G' 1 && (T' 2 == G' 2 && (T' 3 == G' 3 && (T' 4 == G' 4 && T' 5 == G' 5))))) = geB f g ld := by
  have h6 := (isC_len hf).2
  unfold geB
  rw [Bool.eq_iff_iff, decide_eq_true_eq]
  simp only [Bool.and_eq_true, beq_iff_eq]
  constructor
  · rintro ⟨t0, t1, t2, t3, t4, t5⟩ j hj hb
    have key : T' j = G' j := by
      rcases (show j = 0 ∨ j = 1 ∨ j = 2 ∨ j = 3 ∨ j = 4 ∨ j = 5 by omega) with rfl | rfl | rfl | rfl | rfl | rfl
      · exact t0
      · exact t1
      · exact t2
      · exact t3
      · exact t4
      · exact t5
    rw [h1 j (by omega), h2 j (by omega), if_pos hj, if_pos (show j < g.length by omega), if_pos hb] at key
    try rw [if_pos hb] at key
    exact key
  · intro h
    have key : ∀ j, j < 6 → T' j = G' j := fun j hj => by
      rw [h1 j hj, h2 j hj]
      by_cases hl2 : j < f.length
      · rw [if_pos hl2, if_pos (show j < g.length by omega)]
        by_cases hb : ld.testBit j = true
        · simp only [hb, if_true]; exact h j hl2 hb
        · simp [hb]
      · rw [if_neg hl2, if_neg (show ¬ j < g.length by omega)]
    exact ⟨key 0 (by omega), key 1 (by omega), key 2 (by omega), key 3 (by omega), key 4 (by omega), key 5 (by omega)⟩
end

/-! two germs are the same: mathematics (giB = gsB). -/
section
open Go.RowKit Go.Maps

theorem fold_bit (j : Nat) : ∀ (Ls : List (List Int)) (m : Nat), (Ls.foldl (fun m L => m &&& doN L) m).testBit j = (m.testBit j && Ls.all (fun L => (doN L).testBit j))
  | [], m => by simp
  | L :: Ls, m => by rw [List.foldl_cons, fold_bit j Ls, Nat.testBit_and, List.all_cons, Bool.and_assoc]
theorem ld_bit {j : Nat} (hj : j < 6) (Ls : List (List Int)) : (ldN Ls).testBit j = Ls.all (fun L => (doN L).testBit j) := by
  unfold ldN
  rw [fold_bit]
  have : (63 : Nat).testBit j = true := by
    rcases (show j = 0 ∨ j = 1 ∨ j = 2 ∨ j = 3 ∨ j = 4 ∨ j = 5 by omega) with rfl | rfl | rfl | rfl | rfl | rfl <;> decide
  rw [this, Bool.true_and]
theorem idem_at3 {f : List Int} (h : isC f = true) : doN (tiL f (tuL f)) = doN f ∧ idB (tiL f (tuL f)) = true := by
  obtain ⟨h1, _, h3⟩ := domain_law h
  obtain ⟨_, h5, h6⟩ := set_law h1
  rw [h3]
  exact ⟨by omega, h6⟩
theorem idem_on {e f : List Int} (h : isP e f = true) (he : idB e = true) {j : Nat} (hj : j < e.length) : ofL (tiL e f) j = if (doN e).testBit j = true then ofL f j else -1 := by
  obtain ⟨ce, cf, hl⟩ := isP_yes h
  rw [tiL_get h hj, doN_bit ce]
  unfold cmp
  rcases (idB_iff ce).1 he j hj with e1 | e1
  · rw [e1, if_neg (by omega), if_neg (by simp)]
  · rw [e1, if_pos (by omega), if_pos (by simp [hj])]; rfl
theorem two_idem {e f : List Int} (h : isP e f = true) (he : idB e = true) (hf : idB f = true) : idB (tiL e f) = true ∧ ∀ j, (doN (tiL e f)).testBit j = ((doN e).testBit j && (doN f).testBit j) := by
  obtain ⟨ce, cf, hl⟩ := isP_yes h
  have ct := tiL_isC h
  have lt := tiL_len h
  constructor
  · refine (idB_iff ct).2 (fun j hj => ?_)
    rw [idem_on h he (by omega)]
    split
    · exact (idB_iff cf).1 hf j (by omega)
    · exact .inl rfl
  · intro j
    rw [doN_bit ct]
    by_cases hj : j < e.length
    · rw [idem_on h he hj, decide_eq_true (show j < (tiL e f).length by omega), Bool.true_and, doN_bit cf, decide_eq_true (show j < f.length by omega), Bool.true_and]
      by_cases hb : (doN e).testBit j = true
      · rw [if_pos hb, hb, Bool.true_and]
      · rw [if_neg hb, Bool.eq_false_iff.2 hb, Bool.false_and]; rfl
    · rw [doN_bit ce, decide_eq_false (show ¬ j < (tiL e f).length by omega), decide_eq_false hj]; rfl
theorem obj_and {zs : List (List Int)} (S : Sg zs) : ∀ (Ls : List (List Int)), (∀ L ∈ Ls, L ∈ zs) → ∀ E0 ∈ zs, idB E0 = true → ∃ E ∈ zs, idB E = true ∧ ∀ j, (doN E).testBit j = ((doN E0).testBit j && Ls.all (fun L => (doN L).testBit j))
  | [], _, E0, h0, hi => ⟨E0, h0, hi, fun j => by simp⟩
  | L :: Ls, hL, E0, h0, hi => by
    have hz := hL L (List.mem_cons_self ..)
    have cL := S.ch L hz
    obtain ⟨i1, i2⟩ := idem_at3 cL.1
    have hI := S.ti L hz _ (S.tu L hz)
    have cI := S.ch _ hI
    have c0 := S.ch E0 h0
    obtain ⟨t1, t2⟩ := two_idem (isP_of c0.1 cI.1 (c0.2.trans cI.2.symm)) hi i2
    obtain ⟨E, e1, e2, e3⟩ := obj_and S Ls (fun M hM => hL M (List.mem_cons_of_mem _ hM)) _ (S.ti E0 h0 _ hI) t1
    exact ⟨E, e1, e2, fun j => by rw [e3, t2, i1, List.all_cons, Bool.and_assoc]⟩
theorem at_mv {zs : List (List Int)} {f : List Int} {p : Int} : f ∈ atLs zs p ↔ sgS zs = true ∧ mvD zs f p = true := by
  constructor
  · intro h
    obtain ⟨hS, h0, hp, hz, hm⟩ := atLs_mem h
    have c := (sgS_iff.1 hS).ch f hz
    have hl : f.length = m0 zs := c.2
    refine ⟨hS, ?_⟩
    unfold mvB at hm
    rw [doN_bit c.1, Bool.and_eq_true, decide_eq_true_eq, decide_eq_true_eq] at hm
    unfold mvD
    rw [Bool.and_eq_true, Bool.and_eq_true, decide_eq_true_eq, decide_eq_true_eq]
    refine ⟨hz, ?_, ?_⟩
    · unfold inB; exact decide_eq_true ⟨h0, by omega⟩
    · rcases plc_ent c.1 hm.1 with e | ⟨q, _, e⟩
      · exact absurd e hm.2
      · omega
  · rintro ⟨hS, h⟩
    unfold mvD at h
    rw [Bool.and_eq_true, Bool.and_eq_true, decide_eq_true_eq, decide_eq_true_eq] at h
    obtain ⟨hz, hb, h0⟩ := h
    have c := (sgS_iff.1 hS).ch f hz
    have hl : f.length = m0 zs := c.2
    have hpb : 0 ≤ p ∧ p ≤ (f.length : Int) - 1 := by unfold inB at hb; exact of_decide_eq_true hb
    have hok : atOK zs p = true := atOK_iff.2 ⟨hS, hpb.1, by omega⟩
    unfold atLs
    rw [if_pos hok]
    refine List.mem_filter.2 ⟨hz, ?_⟩
    unfold mvB
    rw [doN_bit c.1, Bool.and_eq_true, decide_eq_true_eq, decide_eq_true_eq]
    exact ⟨by omega, by omega⟩
theorem ge_gm {zs : List (List Int)} {f g : List Int} {p : Int} (hf : f ∈ atLs zs p) (hg : g ∈ atLs zs p) : geB f g (ldN (atLs zs p)) = gmB zs f g p.toNat := by
  obtain ⟨hS, h0, hp, hfz, _⟩ := atLs_mem hf
  obtain ⟨_, _, _, hgz, _⟩ := atLs_mem hg
  have S := sgS_iff.1 hS
  have cf := S.ch f hfz
  have cg := S.ch g hgz
  have lf : f.length = m0 zs := cf.2
  have lg : g.length = m0 zs := cg.2
  have h6 := (isC_len cf.1).2
  have hLz : ∀ L ∈ atLs zs p, L ∈ zs ∧ mvB p L = true := fun L h => by obtain ⟨_, _, _, a, b⟩ := atLs_mem h; exact ⟨a, b⟩
  have hbit : ∀ j, j < 6 → (ldN (atLs zs p)).testBit j = (atLs zs p).all (fun L => (doN L).testBit j) := fun j hj => ld_bit hj _
  rw [Bool.eq_iff_iff]
  unfold geB gmB
  rw [decide_eq_true_eq, List.any_eq_true]
  constructor
  · intro h
    obtain ⟨i1, i2⟩ := idem_at3 cf.1
    obtain ⟨E, e1, e2, e3⟩ := obj_and S (atLs zs p) (fun L hL => (hLz L hL).1) _ (S.ti f hfz _ (S.tu f hfz)) i2
    have cE := S.ch E e1
    have lE : E.length = m0 zs := cE.2
    have hEf := isP_of cE.1 cf.1 (cE.2.trans cf.2.symm)
    have hEb : ∀ j, j < 6 → (doN E).testBit j = (ldN (atLs zs p)).testBit j := fun j hj => by
      rw [e3, i1, hbit j hj]
      cases ha : (atLs zs p).all (fun L => (doN L).testBit j)
      · rw [Bool.and_false]
      · rw [Bool.and_true]; exact List.all_eq_true.1 ha f hf
    have ct := tiL_isC hEf
    have lt := tiL_len hEf
    have hpE : (doN E).testBit p.toNat = true := by
      rw [hEb _ (by omega), hbit _ (by omega), List.all_eq_true]
      exact fun L hL => (hLz L hL).2
    refine ⟨tiL E f, S.ti E e1 f hfz, ?_⟩
    unfold gmP
    rw [Bool.and_eq_true, Bool.and_eq_true, decide_eq_true_eq]
    refine ⟨?_, (beB_iff (isP_of ct cf.1 (by omega))).2 (fun j hj => ?_), (beB_iff (isP_of ct cg.1 (by omega))).2 (fun j hj => ?_)⟩
    · rw [idem_on hEf e2 (by omega), if_pos hpE]
      have := (at_mv.1 hf).2
      unfold mvD at this
      rw [Bool.and_eq_true, Bool.and_eq_true, decide_eq_true_eq, decide_eq_true_eq] at this
      exact this.2.2
    · rw [idem_on hEf e2 (by omega)]
      split
      · exact .inr rfl
      · exact .inl rfl
    · rw [idem_on hEf e2 (by omega)]
      split
      · rename_i hb
        exact .inr (h j (by omega) (by rw [← hEb j (by omega)]; exact hb))
      · exact .inl rfl
  · rintro ⟨L, hL, hm⟩ j hj hb
    unfold gmP at hm
    rw [Bool.and_eq_true, Bool.and_eq_true, decide_eq_true_eq] at hm
    obtain ⟨hp0, b1, b2⟩ := hm
    have cL := S.ch L hL
    have lL : L.length = m0 zs := cL.2
    have hLa : L ∈ atLs zs p := at_mv.2 ⟨hS, by
      unfold mvD
      rw [Bool.and_eq_true, Bool.and_eq_true, decide_eq_true_eq, decide_eq_true_eq]
      exact ⟨hL, by unfold inB; exact decide_eq_true ⟨h0, by omega⟩, hp0⟩⟩
    rw [hbit j (by omega)] at hb
    have hj1 := List.all_eq_true.1 hb L hLa
    rw [doN_bit cL.1, Bool.and_eq_true, decide_eq_true_eq, decide_eq_true_eq] at hj1
    rcases (beB_iff (beB_isP b1)).1 b1 j (by omega) with e | e
    · exact absurd e hj1.2
    · rcases (beB_iff (beB_isP b2)).1 b2 j (by omega) with e' | e'
      · exact absurd e' hj1.2
      · rw [← e, ← e']
theorem gi_gs (zs : List (List Int)) (f g : List Int) (p : Int) : giB zs f g p = gsB zs f g p := by
  unfold giB gsB
  by_cases hf : f ∈ atLs zs p
  · obtain ⟨hS, mf⟩ := at_mv.1 hf
    rw [decide_eq_true hf, hS, mf, Bool.true_and, Bool.true_and, Bool.true_and]
    by_cases hg : g ∈ atLs zs p
    · rw [decide_eq_true hg, (at_mv.1 hg).2, Bool.true_and, Bool.true_and, ge_gm hf hg]
    · have : mvD zs g p = false := by
        cases e : mvD zs g p
        · rfl
        · exact absurd (at_mv.2 ⟨hS, e⟩) hg
      rw [decide_eq_false hg, this, Bool.false_and, Bool.false_and]
  · rw [decide_eq_false hf, Bool.false_and]
    cases hS : sgS zs
    · rfl
    · have : mvD zs f p = false := by
        cases e : mvD zs f p
        · rfl
        · exact absurd (at_mv.2 ⟨hS, e⟩) hf
      rw [this]; rfl
end

/-! Congruences told by class numbers, in memory: (impl.congruence[int]).mark, class, numbers. -/
section
open Go.RowKit Go.Maps

theorem mapP_ix {H : Type} {m : Nat} {zs : List (List Int)} (hz : ∀ L ∈ zs, isC L = true ∧ L.length = m) (hs : Srt zs) {n : Nat} (hn : zs.length = n) {L : List Int} (hL : L ∈ zs) (z : DataW H) : (mapP (H := H) klL zs n).atKey (klL L) z = .lit (.int .i64 (ixP zs L : Int)) := by
  obtain ⟨i, hi, rfl⟩ := mem_ent hL
  have hm6 : m ≤ 6 := by have := hz _ hL; have := (isC_len this.1).2; omega
  have h1 := mapP_at (H := H) (P := fun L => isC L = true) klL_key (fun L M hL hM e => klL_inj L M hL hM e) (fun L hL => (hz L hL).1) (hz _ hL).1 n (by omega) ⟨i, by omega, rfl⟩ z
  have h2 := (placed_srt (kl := klL) (placed_self hm6 (fun L hL => (hz L hL).2) hs) hm6 (fun L hL => (hz L hL).2) hs).2 i (by omega)
  rw [hn] at h2
  rw [h1, h2, ixP_at hs hi]
theorem gb_al0 (w : World) (o : Obj) (row : Option Nat) : w.grownBy (w.alloc o) row := gb_of ((Below.refl _ w).alloc (Nat.le_refl _) o) row
theorem gbTr {w w1 w2 : World} {row : Option Nat} (h : w.grownBy w1 row) (h2 : w1.grownBy w2 row) : w.grownBy w2 row := h.andThen h2 (fun _ e => .inr e)
theorem row_map {w : World} {K : TypeId} {R : Value → Option (DataW Unit × List MemPlace)} {q nn : Nat} {D : DataW Unit} (h : w.ownsMap Tryz.prog K R q nn D) : ∀ r, some q = some r → ∃ o : Obj, w.heap[r]? = some o ∧ o.isCells = false := fun r e => by
  cases e
  obtain ⟨es, clock, hb, _⟩ := h
  exact ⟨_, hb, rfl⟩
theorem ri_kept {w w' : World} {A : Option Addr} {n : Nat} {zs : List Int} {row : Option Nat} (h : RI w A n zs) (hg : w.grownBy w' row) (hm : ∀ r, row = some r → ∃ o : Obj, w.heap[r]? = some o ∧ o.isCells = false) : RI w' A n zs := by
  refine ⟨h.1, h.2.1, fun h0 => ?_⟩
  obtain ⟨ad, e, hb, hc⟩ := h.2.2 h0
  exact ⟨ad, e, Nat.lt_of_lt_of_le hb hg.size, fun j u hu => cell_kept (hc j u hu) hg hm⟩
theorem blk_kept {w w' : World} {g : Nat} {t : TypeId} {cs : Array Value} {row : Option Nat} (h : Blk w g t cs) (hg : w.grownBy w' row) (hm : ∀ r, row = some r → ∃ o : Obj, w.heap[r]? = some o ∧ o.isCells = false) : Blk w' g t cs := by
  refine h.grown hg (fun e => ?_)
  obtain ⟨o, ho, hc⟩ := hm g e.symm
  unfold Blk at h
  rw [h] at ho
  cases ho
  cases hc
def wfI (x : Int) : Prop := (Lit.int .i64 x).wf = true

/-- what a congruence by class numbers has in memory -/
structure KgI (w : World) (b q n : Nat) (C : Option Addr) (zs : List (List Int)) (cl : List Int) : Prop where
  sem : w.ownsMap Tryz.prog 58 (plainElem (H := Unit) Tryz.prog 3) b n (mapP klL zs n)
  mkd : ∃ nn D, w.ownsMap Tryz.prog 3 (plainElem (H := Unit) Tryz.prog 3) q nn D
  cls : RI w C n cl
  ne : b ≠ q
section
variable {w w' : World} {b q n : Nat} {C : Option Addr} {zs : List (List Int)} {cl : List Int}
theorem KgI.row (h : KgI w b q n C zs cl) : ∀ r, some q = some r → ∃ o : Obj, w.heap[r]? = some o ∧ o.isCells = false := by
  obtain ⟨nn, D, hm⟩ := h.mkd
  exact row_map hm
theorem KgI.below (h : KgI w b q n C zs cl) (hb : Below w.heap.size w w') : KgI w' b q n C zs cl := by
  obtain ⟨nn, D, hm⟩ := h.mkd
  exact ⟨ownsMap_same h.sem (hb.block b h.sem.lt), ⟨nn, D, ownsMap_same hm (hb.block q hm.lt)⟩, h.cls.below hb, h.ne⟩
theorem KgI.kept (h : KgI w b q n C zs cl) (hg : w.grownBy w' (some q)) (hm : ∃ nn D, w'.ownsMap Tryz.prog 3 (plainElem (H := Unit) Tryz.prog 3) q nn D) : KgI w' b q n C zs cl :=
  ⟨h.sem.kept hg (fun e => h.ne (by cases e; rfl)), hm, ri_kept h.cls hg h.row, h.ne⟩
theorem KgI.q_lt (h : KgI w b q n C zs cl) : q < w.heap.size := by
  obtain ⟨nn, D, hm⟩ := h.mkd
  exact hm.lt
end
set_option maxHeartbeats 1000000 in
theorem markI_any (b : Option Nat) (q nn n c : Nat) (C : Option Addr) (x v : Int) (D : DataW Unit) (w : World) (hown : w.ownsMap Tryz.prog 3 (plainElem (H := Unit) Tryz.prog 3) q nn D) (hx : wfI x) (hv : wfI v) (hn : nn < maxLen) :
    Calls Tryz.prog 112 #[.agg #[.map b, .slice C n c, .map (some q)], .int .i64 x, .int .i64 v] w fun e w' => ∃ z, e = .returned (.int .i64 z) ∧ mrkV D (.int .i64 x) v z ∧ w'.ownsMap Tryz.prog 3 (plainElem (H := Unit) Tryz.prog 3) q (nn + 1) (mrk D (.int .i64 x) v) ∧ w.grownBy w' (some q) := by
  have hkey : keyOf Tryz.prog 3 (.int .i64 x) = some (.int .i64 x) := keyOf_int_mk Tryz.underlying3 hx
  have hown1 := hown.alloc (.cells #[.map b, .slice C n c, .map (some q)] 51)
  have hz : (zeroValue 3).run Tryz.prog (w.alloc (.cells #[.map b, .slice C n c, .map (some q)] 51)) = .ok (.int .i64 0) (w.alloc (.cells #[.map b, .slice C n c, .map (some q)] 51)) := by kernel_rfl
  have hb2 := (Blk.new w 51 #[.map b, .slice C n c, .map (some q)]).cell 2
  have hg1 := gb_al0 w (.cells #[.map b, .slice C n c, .map (some q)] 51) (some q)
  have HW : Hid (wfI v) := hv
  clear hown hx hv
  cases hh : Maps.has D (.int .i64 x)
  · have HM : Hid (mrk D (.int .i64 x) v = D.put (.int .i64 x) (.lit (.int .i64 v))) := by show _ = _; unfold mrk; rw [hh]; rfl
    have HV : Hid (mrkV D (.int .i64 x) v v) := ⟨fun e => (by rw [hh] at e; cases e), fun _ => rfl⟩
    go_enter Tryz.func112, Tryz.ntmps112
    go_wp2_with (first
      | (at_lookup; refine wpList_lookup_own_ok_int _ rfl _ _ 49 rfl 3 3 .i64 (int_keyed Tryz.underlying3) Tryz.underlying49 Tryz.underlying3 hz q nn D rfl hown1 _ (.int .i64 x) rfl hkey ?_; intro z hat hwc)
      | (at_mapUpdate; refine wpList_mapUpdate_own _ rfl _ _ _ 49 rfl 3 3 (int_keyed Tryz.underlying3) Tryz.underlying49 _ q nn _ rfl hown1 hn _ _ _ rfl rfl hkey _ [] (plainElem_int Tryz.underlying3 HW.out) ?_; intro w5 hm5 hgr5))
    go_ret
    exact ⟨v, by try rfl, HV.out, by rw [HM.out]; exact hm5, gbTr hg1 hgr5⟩
  · have HM : Hid (mrk D (.int .i64 x) v = D) := by show _ = _; unfold mrk; rw [hh]; rfl
    have HV : Hid (∀ z, D.atKey (.int .i64 x) (.lit (.int .i64 0)) = .lit (.int .i64 z) → mrkV D (.int .i64 x) v z) := fun z hz => ⟨fun _ => hz, fun e => (by rw [hh] at e; cases e)⟩
    go_enter Tryz.func112, Tryz.ntmps112
    go_wp2_with (at_lookup; refine wpList_lookup_own_ok_int _ rfl _ _ 49 rfl 3 3 .i64 (int_keyed Tryz.underlying3) Tryz.underlying49 Tryz.underlying3 hz q nn D rfl hown1 _ (.int .i64 x) rfl hkey ?_; intro z hat hwc)
    go_ret
    exact ⟨z, by try rfl, HV.out z hat, by rw [HM.out]; exact hown1.mono (Nat.le_succ _), hg1⟩
end

/-! (impl.congruence[int]).class, numbers. -/
section
open Go.RowKit Go.Maps

set_option maxHeartbeats 1000000 in
theorem classI_any (b m n c : Nat) (Q : Option Nat) (C : Option Addr) (zs : List (List Int)) (cl L : List Int) (w : World) (hn : zs.length = n) (hz : ∀ L ∈ zs, isC L = true ∧ L.length = m) (hs : Srt zs) (hL : L ∈ zs)
    (hown : w.ownsMap Tryz.prog 58 (plainElem (H := Unit) Tryz.prog 3) b n (mapP klL zs n)) (hC : RI w C n cl) :
    Calls Tryz.prog 70 #[.agg #[.map (some b), .slice C n c, .map Q], .agg #[.int .i64 ((m : Int)), .int .i64 (ofL L 0), .int .i64 (ofL L 1), .int .i64 (ofL L 2), .int .i64 (ofL L 3), .int .i64 (ofL L 4), .int .i64 (ofL L 5)]] w fun e w' => e = .returned (.int .i64 (kC zs cl L)) ∧ Below w.heap.size w w' := by
  obtain ⟨hi, _, _⟩ := ixP_mem hs hL
  rw [hn] at hi
  have hat := mapP_ix (H := Unit) hz hs hn hL (.lit (.int .i64 0))
  obtain ⟨kv, hkv⟩ : ∃ kv, kC zs cl L = kv := ⟨_, rfl⟩
  have HKV := Lib.hid hkv
  obtain ⟨ac, rfl, hab, hc⟩ := hC.at_ hi
  rw [show cl[ixP zs L]?.getD 0 = kC zs cl L from rfl, hkv] at hc
  clear hkv
  have hkey : keyOf Tryz.prog 58 (.agg #[.int .i64 ((m : Int)), .int .i64 (ofL L 0), .int .i64 (ofL L 1), .int .i64 (ofL L 2), .int .i64 (ofL L 3), .int .i64 (ofL L 4), .int .i64 (ofL L 5)]) = some (klL L) := by have := keyOf_L (hz L hL).1; rw [(hz L hL).2] at this; exact this
  have hB : Below w.heap.size w ((w.alloc (.cells #[.map (some b), .slice (some ac) n c, .map Q] 51)).alloc (.cells #[.int .i64 ((m : Int)), .int .i64 (ofL L 0), .int .i64 (ofL L 1), .int .i64 (ofL L 2), .int .i64 (ofL L 3), .int .i64 (ofL L 4), .int .i64 (ofL L 5)] 58)) := ((Below.refl _ w).alloc (Nat.le_refl _) _).alloc (by simp) _
  have hown1 := (hown.alloc (.cells #[.map (some b), .slice (some ac) n c, .map Q] 51)).alloc (.cells #[.int .i64 ((m : Int)), .int .i64 (ofL L 0), .int .i64 (ofL L 1), .int .i64 (ofL L 2), .int .i64 (ofL L 3), .int .i64 (ofL L 4), .int .i64 (ofL L 5)] 58)
  have hb0 := ((Blk.new w 51 #[.map (some b), .slice (some ac) n c, .map Q]).alloc (.cells #[.int .i64 ((m : Int)), .int .i64 (ofL L 0), .int .i64 (ofL L 1), .int .i64 (ofL L 2), .int .i64 (ofL L 3), .int .i64 (ofL L 4), .int .i64 (ofL L 5)] 58))
  have hch := Cb.new (w.alloc (.cells #[.map (some b), .slice (some ac) n c, .map Q] 51)) (m : Int) (ofL L)
  have hcc := (hB.cell (p := ac.add (ixP zs L)) (by rw [block_of_add]; exact hab)).trans hc
  clear hC hc hab hown hz hs hL hn
  go_enter Tryz.func70, Tryz.ntmps70
  go_wp2
  rw [World.size_alloc] at hch
  generalize (w.alloc (.cells #[.map (some b), .slice (some ac) n c, .map Q] 51)).alloc (.cells #[.int .i64 ((m : Int)), .int .i64 (ofL L 0), .int .i64 (ofL L 1), .int .i64 (ofL L 2), .int .i64 (ofL L 3), .int .i64 (ofL L 4), .int .i64 (ofL L 5)] 58) = W0 at *
  have c0 : ∀ j, (W0.drewN j).cell? ⟨w.heap.size, 0, none⟩ = some (.map (some b)) := fun j => hb0.cell 0
  have c1 : ∀ j, (W0.drewN j).cell? ⟨w.heap.size, 1, none⟩ = some (.slice (some ac) n c) := fun j => hb0.cell 1
  have hrun : ∀ j, (Instr.lookup 48 (.map (some b)) (.agg #[.int .i64 ((m : Int)), .int .i64 (ofL L 0), .int .i64 (ofL L 1), .int .i64 (ofL L 2), .int .i64 (ofL L 3), .int .i64 (ofL L 4), .int .i64 (ofL L 5)]) false).run Tryz.prog (W0.drewN j) = .ok (.int .i64 (ixP zs L : Nat)) (W0.drewN j) := fun j => by
    have hz0 : (zeroValue 3).run Tryz.prog (W0.drewN j) = .ok (.int .i64 0) (W0.drewN j) := by kernel_rfl
    obtain ⟨z, hr, ha, _⟩ := World.ownsMap.lookup_int (w := W0.drewN j) hown1 ch_keyed Tryz.underlying48 Tryz.underlying3 hz0 hkey
    rw [hat] at ha
    injection ha with ha
    injection ha with _ ha
    rw [ha]; exact hr
  obtain ⟨a0, a1, a2, a3, a4, a5, a6⟩ := hch.all
  have hii : ((ixP zs L : Nat) : Int) < (n : Int) := by omega
  generalize ixP zs L = p at *
  go_quiet (fail)
  all_goals go_wp2
  go_ret
  exact ⟨by rw [HKV.out]; try rfl, below_drewN hB _⟩
def kfI (x : Int) : Lit := .int .i64 x
theorem kfI_key (x : Int) : WideAt.IsKeyLit (kfI x) := by unfold kfI; trivial
theorem kfI_inj {x y : Int} (h : kfI x = kfI y) : x = y := by unfold kfI at h; injection h
/-- the numbers when k of the classes are marked -/
structure NuS (w wr : World) (b : Option Nat) (q n c k : Nat) (C : Option Addr) (cl : List Int) (v : Value) : Prop where
  row : wr.ownsRow w.heap.size 3 1 v k (ivs (nuL (ofL cl) k))
  mkd : wr.ownsMap Tryz.prog 3 (plainElem (H := Unit) Tryz.prog 3) q k (mrD (ofL cl) kfI (fun i => (frC (ofL cl) i : Int)) k)
  gr : w.grownBy wr (some q)
  bx : Blk wr w.heap.size 51 #[.map b, .slice C n c, .map (some q)]
  ql : q < w.heap.size
section
variable {w wr w' : World} {b : Option Nat} {q n c k : Nat} {C : Option Addr} {cl : List Int} {v : Value}
theorem NuS.ne (h : NuS w wr b q n c k C cl v) : v.ownBlock ≠ some q := fun e => by have := (h.row.lt q e).1; have := h.ql; omega
theorem NuS.nb (h : NuS w wr b q n c k C cl v) : v.ownBlock ≠ some w.heap.size := own_blk_ne h.row h.bx (by decide)
end
set_option maxHeartbeats 2000000 in
theorem numbersI_any (b : Option Nat) (q nn n c : Nat) (C : Option Addr) (cl : List Int) (D : DataW Unit) (w : World) (hn4 : n ≤ 1048576) (hw : ∀ x ∈ cl, wfI x) (hC : RI w C n cl) (hown : w.ownsMap Tryz.prog 3 (plainElem (H := Unit) Tryz.prog 3) q nn D) :
    Calls Tryz.prog 66 #[.agg #[.map b, .slice C n c, .map (some q)]] w fun e w' => ∃ v, e = .returned v ∧ w'.ownsRow w.heap.size 3 1 v n (ivs (nuL (ofL cl) n)) ∧ (∃ nn D, w'.ownsMap Tryz.prog 3 (plainElem (H := Unit) Tryz.prog 3) q nn D) ∧ w.grownBy w' (some q) := by
  obtain ⟨i0, hi, hz0, hz1, hz2⟩ := info_parts info_int
  have hl := hC.len
  have HB0 := Lib.hid (Blk.new w 51 #[.map b, .slice C n c, .map (some q)])
  have hg0 := gb_al0 w (.cells #[.map b, .slice C n c, .map (some q)] 51) (some q)
  have hown1 := hown.alloc (.cells #[.map b, .slice C n c, .map (some q)] 51)
  have hql : q < w.heap.size := hown.lt
  have HRM := Lib.hid (row_map hown)
  have HC := Lib.hid (fun (W : World) (hg : w.grownBy W (some q)) => ri_kept hC hg (row_map hown))
  have HWF := Lib.hid hw
  have HL := Lib.hid hl
  have b1 := HB0.out.cell 1
  have b2 := HB0.out.cell 2
  clear hown hC hw hl
  go_enter Tryz.func66, Tryz.ntmps66
  obtain ⟨w1, hrun, hm1, hg1⟩ := clear_run (t := 49) _ Tryz.underlying49 hown1 0
  have hbx := blk_kept HB0.out hg1 (row_map hown1)
  have HN0 : Hid (NuS w w1 b q n c 0 C cl (.slice none 0 0)) := ⟨World.ownsRow_nil _ _ _ _, hm1, gbTr hg0 hg1, hbx, hql⟩
  have d1 := hbx.cell 1
  clear hown1 hm1 hg1 hg0 HRM hbx
  go_wp2
  go_loopw [3, 11] (fun v s wr => ∃ k : Nat, k ≤ n ∧ s = .int .i64 (k : Int) ∧ Hid (NuS w wr b q n c k C cl v)) (fun _ s _ => n - (intOf s).toNat)
  case atStart => exact ⟨0, Nat.zero_le _, rfl, HN0.out⟩
  case round =>
    clear HN0 d1 b1 b2 hrun
    obtain ⟨k, hkn, rfl, HN⟩ := hrel
    by_cases hlt : k < n
    · have hkk : (k : Int) < (n : Int) := by omega
      obtain ⟨ac, rfl, _, a1⟩ := (HC.out wr HN.out.gr).at_ hlt
      rw [show cl[k]?.getD 0 = ofL cl k from rfl] at a1
      have hwx : wfI (ofL cl k) := by
        unfold ofL; rw [List.getElem?_eq_getElem (by rw [HL.out]; exact hlt)]
        exact HWF.out _ (List.getElem_mem _)
      have hfk := frC_le (ofL cl) k
      have hwv : wfI (frC (ofL cl) k : Int) := WalkArith.wf_i64 (by omega)
      have hmk := HN.out.mkd
      have hlen := hmk.len Tryz.underlying49
      rw [mrD_size (kf := kfI) (n := n) kfI_key (fun i j _ _ h => kfI_inj h) k hkn] at hlen
      have HMK := Lib.hid (markI_any b q k n c (some ac) (ofL cl k) (frC (ofL cl) k : Int) _ wr hmk hwx hwv (by unfold maxLen; omega))
      have HVAL := Lib.hid (fun (z : Int) hz => mrD_val (H := Unit) (c := ofL cl) (kf := kfI) (v := fun i => (frC (ofL cl) i : Int)) (n := n) kfI_key (fun i j _ _ h => kfI_inj h) hlt (z := z) hz)
      have HRM := Lib.hid (row_map hmk)
      have d0 := HN.out.bx.cell 0
      have d1 := HN.out.bx.cell 1
      have d2 := HN.out.bx.cell 2
      have HMS : Hid (mrk (mrD (H := Unit) (ofL cl) kfI (fun i => (frC (ofL cl) i : Int)) k) (.int .i64 (ofL cl k)) (frC (ofL cl) k : Int) = mrD (ofL cl) kfI (fun i => (frC (ofL cl) i : Int)) (k + 1)) := rfl
      have HST : Hid (∀ z : Int, z = (nuE (ofL cl) k : Int) → ivs (nuL (ofL cl) k) ++ [.int .i64 z] = ivs (nuL (ofL cl) (k + 1))) := fun z hz => by
        subst hz; rw [nuL_snoc]; simp [ivs]
      have HVE : Hid (∀ z : Int, z = (frC (ofL cl) (fsE (ofL cl) k) : Int) → z = (nuE (ofL cl) k : Int)) := fun z hz => hz
      clear hmk
      generalize mrD (H := Unit) (ofL cl) kfI (fun i => (frC (ofL cl) i : Int)) k = D0 at *
      generalize hxx : ofL cl k = x at *
      clear hxx
      generalize frC (ofL cl) k = f at *
      go_wp2_with fail
      refine HMK.out.mono ?_
      rintro e w2 ⟨z, rfl, hzv, hm2, hg2⟩
      have HSTZ := Lib.hid (HST.out z (HVE.out z (HVAL.out z hzv)))
      rw [HMS.out] at hm2
      have hrow2 := HN.out.row.kept hg2 (.inr HN.out.ne)
      have hbx2 := blk_kept HN.out.bx hg2 HRM.out
      have hgr2 := gbTr HN.out.gr hg2
      have hne := HN.out.ne
      have hnb := HN.out.nb
      have h1 : k + 1 ≤ maxLen := by unfold maxLen; omega
      have h2 : (k + 1) * 8 ≤ 140737488355328 := by omega
      have h3 : ∀ o : Obj, w.heap.size ≤ (w2.alloc o).heap.size := fun o => by have := hgr2.size; simp; omega
      clear HMK HVAL HVE HMS hzv hg2 hlen d0 d1 d2 a1 HN
      go_wp2_with (at_builtin; refine wpList_append_own _ rfl _ _ 24 rfl w.heap.size 3 i0 (.int .i64 0) 1 8 Tryz.underlying24 hi hz0 hz1 hz2 rfl (by decide) _ _ _ rfl (hrow2.alloc _) ⟨w2.heap.size, 0, none⟩ 1 1 [.int .i64 z] rfl rfl (cell_one_new _ _ _) (by simp [Value.oneCell']) h1 h2 (h3 _) ?_; intro v' w5 hown' hgrow _)
      rw [HSTZ.out] at hown'
      have HN2 : Hid (NuS w w5 b q n c (k + 1) (some ac) cl v') := ⟨hown', (hm2.alloc _).kept hgrow (Ne.symm hne), (gbTr hgr2 (gb_al0 w2 _ _)).andThen hgrow (fun j e => .inl (hrow2.lt j e).1), (hbx2.alloc _).grown hgrow (Ne.symm hnb), hql⟩
      clear hown' hgrow hm2 hrow2 hbx2 hgr2
      go_roundw
      case rel => exact ⟨k + 1, by omega, by go_num, HN2.out⟩
      case measure => simp [intOf]; omega
    · obtain rfl : k = n := by omega
      have hkk : ¬ (k : Int) < (k : Int) := by omega
      go_wp2
      go_ret
      exact ⟨_, rfl, HN.out.row, ⟨_, _, HN.out.mkd⟩, HN.out.gr⟩
end

/-! The group congruence: mathematics; spec.CongruenceGroup. -/
section
open Go.RowKit Go.Maps

/-- what is left of a chart on a set -/
def ctF (ld : Nat) (L : List Int) : List Int := LT L.length (fun j => if ld.testBit j = true then ofL L j else -1)
theorem ctF_len (ld : Nat) (L : List Int) : (ctF ld L).length = L.length := LT_length _ _
theorem ctF_get (ld : Nat) (L : List Int) {j : Nat} (hj : j < L.length) : ofL (ctF ld L) j = if ld.testBit j = true then ofL L j else -1 := LT_get _ _ j hj
theorem ctF_out (ld : Nat) (L : List Int) {j : Nat} (hj : ¬ j < L.length) : ofL (ctF ld L) j = 0 := by
  unfold ofL; rw [List.getElem?_eq_none (by rw [ctF_len]; omega)]; rfl
/-- the chart on the least of all objects -/
theorem least_obj {zs : List (List Int)} (S : Sg zs) {f : List Int} (hf : f ∈ zs) : ∃ E ∈ zs, idB E = true ∧ ∀ j, j < 6 → (doN E).testBit j = (ldN zs).testBit j := by
  have cf := S.ch f hf
  obtain ⟨i1, i2⟩ := idem_at3 cf.1
  obtain ⟨E, e1, e2, e3⟩ := obj_and S zs (fun L hL => hL) _ (S.ti f hf _ (S.tu f hf)) i2
  refine ⟨E, e1, e2, fun j hj => ?_⟩
  rw [e3, i1, ld_bit hj]
  cases ha : zs.all (fun L => (doN L).testBit j)
  · rw [Bool.and_false]
  · rw [Bool.and_true]; exact List.all_eq_true.1 ha f hf
theorem ct_is {zs : List (List Int)} (S : Sg zs) {f E : List Int} (hf : f ∈ zs) (hE : E ∈ zs) (hi : idB E = true) (hb : ∀ j, j < 6 → (doN E).testBit j = (ldN zs).testBit j) : ctF (ldN zs) f = tiL E f := by
  have cf := S.ch f hf
  have cE := S.ch E hE
  have hP := isP_of cE.1 cf.1 (cE.2.trans cf.2.symm)
  have h6 := (isC_len cf.1).2
  have lE : E.length = f.length := cE.2.trans cf.2.symm
  refine ofL_ext (n := f.length) (ctF_len _ _) ((tiL_len hP).trans lE) (fun j hj => ?_)
  rw [ctF_get _ _ hj, idem_on hP hi (by omega), hb j (by omega)]
theorem ct_isC {zs : List (List Int)} (S : Sg zs) {f : List Int} (hf : f ∈ zs) : isC (ctF (ldN zs) f) = true ∧ (ctF (ldN zs) f).length = (ent zs 0).length := by
  obtain ⟨E, e1, e2, e3⟩ := least_obj S hf
  have h := ct_is S hf e1 e2 e3
  have hm := S.ti E e1 f hf
  rw [h]; exact S.ch _ hm
/-- a chart below both, or what is left of them is the same -/
theorem ct_below {zs : List (List Int)} (S : Sg zs) {f g : List Int} (hf : f ∈ zs) (hg : g ∈ zs) : (∃ L ∈ zs, beB L f = true ∧ beB L g = true) ↔ ctF (ldN zs) f = ctF (ldN zs) g := by
  have cf := S.ch f hf
  have cg := S.ch g hg
  have h6 := (isC_len cf.1).2
  have lg : g.length = f.length := cg.2.trans cf.2.symm
  constructor
  · rintro ⟨L, hL, b1, b2⟩
    have cL := S.ch L hL
    have lL : L.length = f.length := cL.2.trans cf.2.symm
    refine ofL_ext (n := f.length) (ctF_len _ _) ((ctF_len _ _).trans lg) (fun j hj => ?_)
    rw [ctF_get _ _ hj, ctF_get _ _ (by omega)]
    split
    · rename_i hb
      rw [ld_bit (by omega)] at hb
      have hj1 := List.all_eq_true.1 hb L hL
      rw [doN_bit cL.1, Bool.and_eq_true, decide_eq_true_eq, decide_eq_true_eq] at hj1
      rcases (beB_iff (beB_isP b1)).1 b1 j (by omega) with e | e
      · exact absurd e hj1.2
      · rcases (beB_iff (beB_isP b2)).1 b2 j (by omega) with e' | e'
        · exact absurd e' hj1.2
        · rw [← e, ← e']
    · rfl
  · intro h
    obtain ⟨E, e1, e2, e3⟩ := least_obj S hf
    have cE := S.ch E e1
    have hm := S.ti E e1 f hf
    have ct := S.ch _ hm
    have h1 := ct_is S hf e1 e2 e3
    refine ⟨tiL E f, hm, ?_, ?_⟩
    · refine (beB_iff (isP_of ct.1 cf.1 (ct.2.trans cf.2.symm))).2 (fun j hj => ?_)
      have hj' : j < f.length := by have := ct.2; have := cf.2; omega
      rw [← h1, ctF_get _ _ hj']
      split
      · exact .inr rfl
      · exact .inl rfl
    · refine (beB_iff (isP_of ct.1 cg.1 (ct.2.trans cg.2.symm))).2 (fun j hj => ?_)
      have hj' : j < f.length := by have := ct.2; have := cf.2; omega
      rw [← h1, h, ctF_get _ _ (by omega)]
      split
      · exact .inr rfl
      · exact .inl rfl
/-- the classes of the group congruence -/
def grC (zs : List (List Int)) (i : Nat) : List Int := ctF (ldN zs) (ent zs i)
def grpL (zs : List (List Int)) : List Int := if sgS zs = true then nuL (grC zs) zs.length else []
theorem grpL_len (zs : List (List Int)) : (grpL zs).length ≤ 400 := by
  unfold grpL; split
  · rename_i h; rw [nuL_len]; exact (sgS_iff.1 h).most
  · simp
def bbB (zs : List (List Int)) (i k j : Nat) : Bool := beB (ent zs j) (ent zs i) && beB (ent zs j) (ent zs k)
theorem bb_yes {zs : List (List Int)} (S : Sg zs) {i k j : Nat} (hi : i < zs.length) (hk : k < zs.length) (hj : j < zs.length) (h : bbB zs i k j = true) : grC zs k = grC zs i := by
  unfold bbB at h
  rw [Bool.and_eq_true] at h
  exact ((ct_below S (ent_mem hi) (ent_mem hk)).1 ⟨_, ent_mem hj, h.1, h.2⟩).symm
theorem bb_no {zs : List (List Int)} (S : Sg zs) {i k : Nat} (hi : i < zs.length) (hk : k < zs.length) (h : ∀ j, j < zs.length → bbB zs i k j = false) : grC zs k ≠ grC zs i := fun e => by
  obtain ⟨L, hL, b1, b2⟩ := (ct_below S (ent_mem hi) (ent_mem hk)).2 e.symm
  obtain ⟨j, hj, rfl⟩ := mem_ent hL
  have := h j hj
  unfold bbB at this
  rw [b1, b2] at this
  cases this
/-- the first places of the classes -/
def rtL {α : Type} [DecidableEq α] (c : Nat → α) (i : Nat) : List Int := (List.range i).map (fun j => (fsE c j : Int))
theorem rtL_len {α : Type} [DecidableEq α] (c : Nat → α) (i : Nat) : (rtL c i).length = i := by unfold rtL; simp
theorem rtL_get {α : Type} [DecidableEq α] (c : Nat → α) {i j : Nat} (h : j < i) : (rtL c i)[j]?.getD 0 = (fsE c j : Int) := by unfold rtL; simp [h]
theorem rtL_snoc {α : Type} [DecidableEq α] (c : Nat → α) (i : Nat) : rtL c (i + 1) = rtL c i ++ [(fsE c i : Int)] := by unfold rtL; rw [List.range_succ, List.map_append]; rfl
theorem rtL_nu {α : Type} [DecidableEq α] (c : Nat → α) (n : Nat) : nuL (ofL (rtL c n)) n = nuL c n := nuL_same (fun i j hi hj => by
  have e1 : ofL (rtL c n) i = (fsE c i : Int) := rtL_get c hi
  have e2 : ofL (rtL c n) j = (fsE c j : Int) := rtL_get c hj
  rw [e1, e2]
  have := fsE_iff c i j
  constructor
  · intro h; exact this.1 (by omega)
  · intro h; have := this.2 h; omega)
end

/-! spec.CongruenceGroup. -/
section
open Go.RowKit Go.Maps

/-- what lies in memory while two charts are compared with a third one -/
structure GbW (V W : World) (lo n m i j k : Nat) (A : Option Addr) (zs : List (List Int)) (u : Value) (rs : List Int) : Prop where
  rss : RSS W A n zs
  own : W.ownsRow lo 3 1 u i (ivs rs)
  bel : Below V.heap.size V W
section
variable {V W W' : World} {lo n m i j k : Nat} {A : Option Addr} {zs : List (List Int)} {u : Value} {rs : List Int}
theorem GbW.below (h : GbW V W lo n m i j k A zs u rs) (hb : Below W.heap.size W W') : GbW V W' lo n m i j k A zs u rs := ⟨h.rss.below hb, own_below h.own hb, h.bel.trans (hb.mono h.bel.size)⟩
theorem GbW.row (h : GbW V W lo n m i j k A zs u rs) (hch : ∀ L ∈ zs, isC L = true ∧ L.length = m) (hn : zs.length = n) {t : Nat} (ht : t < n) : ∃ (ad : Addr) (At : Option Addr) (ct : Nat), A = some ad ∧ W.cell? (ad.add t) = some (.slice At m ct) ∧ RI W At m (ent zs t) := by
  obtain ⟨ad, At, ct, e, _, hc, hr⟩ := h.rss.at_ ht
  have e1 := hch _ (ent_mem (show t < zs.length by omega))
  rw [show zs[t]?.getD [] = ent zs t from rfl, e1.2] at hc hr
  exact ⟨ad, At, ct, e, hc, hr⟩
end
set_option maxHeartbeats 2000000 in
theorem specCgGroup_any (A : Option Addr) (n c : Nat) (zs : List (List Int)) (w : World) (h : RSS w A n zs) (hn : n ≤ 1048576) (hl : ∀ L ∈ zs, L.length ≤ 1048576) :
    Calls Tryz.prog 18 #[.slice A n c] w fun e w' => ∃ v, e = .returned (.tuple #[v, .bool (sgS zs)]) ∧ w'.ownsRow w.heap.size 3 1 v (grpL zs).length (ivs (grpL zs)) ∧ Below w.heap.size w w' := by
  obtain ⟨i0, hi, hz0, hz1, hz2⟩ := info_parts info_int
  have hsg := specSg_any A n c zs w h hn hl
  cases hS : sgS zs
  · have HO : Hid (grpL zs = []) := by show _ = _; unfold grpL; rw [hS]; rfl
    rw [hS] at hsg
    clear hS
    go_enter Tryz.func18, Tryz.ntmps18
    go_wp2_with fail
    refine hsg.mono ?_
    rintro e w1 ⟨rfl, hb⟩
    have hB := hb.alloc hb.size (.cells #[] 3)
    have hr := own_base (own_lit0 w1) hb.size
    clear hsg
    go_wp2
    go_ret2
    exact ⟨_, rfl, by rw [HO.out]; exact hr, hB⟩
  · have HO : Hid (grpL zs = nuL (grC zs) n) := by show _ = _; unfold grpL; rw [if_pos hS, h.len]
    have S := sgS_iff.1 hS
    have HLN := Lib.hid h.len
    have hn4 : n ≤ 400 := by have := S.most; have := h.len; omega
    have HCH : Hid (∀ L ∈ zs, isC L = true ∧ L.length = (ent zs 0).length) := fun L hL => S.ch L hL
    have HK1 : Hid (∀ i k j, i < n → k < n → j < n → bbB zs i k j = true → grC zs k = grC zs i) := fun i k j hi hk hj hh => bb_yes S (by have := h.len; omega) (by have := h.len; omega) (by have := h.len; omega) hh
    have HK2 : Hid (∀ i k, i < n → k < n → (∀ j, j < n → bbB zs i k j = false) → grC zs k ≠ grC zs i) := fun i k hi hk hh => bb_no S (by have := h.len; omega) (by have := h.len; omega) (fun j hj => hh j (by have := h.len; omega))
    have HR := Lib.hid h
    rw [hS] at hsg
    generalize grC zs = cf at *
    generalize (ent zs 0).length = m at *
    clear S h hS hl
    go_enter Tryz.func18, Tryz.ntmps18
    go_wp2_with fail
    refine hsg.mono ?_
    rintro e w1 ⟨rfl, hb⟩
    have hB0 := hb.alloc hb.size (.cells #[] 3)
    have hr0 := own_base (own_lit0 w1) hb.size
    clear hsg hb
    go_wp2
    generalize (w1.alloc (.cells #[] 3)) = W1 at *
    go_loopw [4, 5] (fun v s wr => ∃ i : Nat, i ≤ n ∧ s = .int .i64 (i : Int) ∧ wr.ownsRow w.heap.size 3 1 v i (ivs (rtL cf i)) ∧ Below w.heap.size w wr) (fun _ s _ => n - (intOf s).toNat)
    case atStart => exact ⟨0, Nat.zero_le _, rfl, hr0, hB0⟩
    case round =>
      clear hr0 hB0
      obtain ⟨i, hin, rfl, hown, hB⟩ := hrel
      by_cases hlt : i < n
      · have hii : (i : Int) < (n : Int) := by omega
        obtain ⟨Ar, cr, rfl⟩ := own_shape hown
        obtain ⟨V0, hV⟩ : ∃ V, V = wr := ⟨_, rfl⟩
        have HG0 : Hid (GbW V0 wr w.heap.size n m i 0 0 A zs (.slice Ar i cr) (rtL cf i)) := by
          show GbW _ _ _ _ _ _ _ _ _ _ _ _
          rw [hV]; exact ⟨HR.out.below hB, hown, Below.refl _ _⟩
        have HBW : Hid (∀ W, Below V0.heap.size V0 W → w.heap.size ≤ W.heap.size ∧ Below w.heap.size w W) := fun W hW => by
          rw [hV] at hW
          have := hB.trans (hW.mono hB.size)
          exact ⟨this.size, this⟩
        clear hV
        clear hown hB
        go_wp2
        go_loopw [6, 7] (fun v s wq => ∃ k : Nat, k ≤ i ∧ s = .int .i64 (k : Int) ∧ Hid (GbW V0 wq w.heap.size n m i 0 0 A zs (.slice Ar i cr) (rtL cf i)) ∧ ((v = .int .i64 (i : Int) ∧ Hid (∀ j, j < k → cf j ≠ cf i)) ∨ (∃ f : Nat, v = .int .i64 (f : Int) ∧ f < i ∧ Hid (fsE cf i = f)))) (fun _ s _ => i - (intOf s).toNat)
        case atStart => exact ⟨0, Nat.zero_le _, rfl, HG0.out, .inl ⟨rfl, Lib.hid (fun j hj => absurd hj (Nat.not_lt_zero _))⟩⟩
        case round =>
          clear HG0
          obtain ⟨k, hki, rfl, HG, hv⟩ := hrel
          rcases hv with ⟨rfl, HN⟩ | ⟨f, rfl, hfi, HF⟩
          · by_cases hkl : k < i
            · have hkk : (k : Int) < (i : Int) := by omega
              have HG1 := HG
              clear HG
              go_wp2
              go_loopw [6, 8] (fun v s wq => ∃ j : Nat, j ≤ n ∧ s = .int .i64 (j : Int) ∧ Hid (GbW V0 wq w.heap.size n m i 0 0 A zs (.slice Ar i cr) (rtL cf i)) ∧ ((v = .int .i64 (i : Int) ∧ Hid (∀ t, t < j → bbB zs i k t = false)) ∨ (v = .int .i64 (k : Int) ∧ Hid (cf k = cf i)))) (fun _ s _ => n - (intOf s).toNat)
              case atStart => exact ⟨0, Nat.zero_le _, rfl, HG1.out, .inl ⟨rfl, Lib.hid (fun j hj => absurd hj (Nat.not_lt_zero _))⟩⟩
              case round =>
                clear HG1
                obtain ⟨j, hjn, rfl, HG, hv⟩ := hrel
                rcases hv with ⟨rfl, HJ⟩ | ⟨rfl, HC⟩
                · by_cases hj : j < n
                  · have hjj : (j : Int) < (n : Int) := by omega
                    have hchj := HCH.out _ (ent_mem (show j < zs.length by have := HLN.out; omega))
                    have hchi := HCH.out _ (ent_mem (show i < zs.length by have := HLN.out; omega))
                    have hchk := HCH.out _ (ent_mem (show k < zs.length by have := HLN.out; omega))
                    have HP1 := Lib.hid (isP_of hchj.1 hchi.1 (hchj.2.trans hchi.2.symm))
                    have HP2 := Lib.hid (isP_of hchj.1 hchk.1 (hchj.2.trans hchk.2.symm))
                    obtain ⟨ad, Aj, cj, rfl, hcj, hrj⟩ := HG.out.row HCH.out HLN.out hj
                    obtain ⟨ad', Ai, ci, ei, hci, hri⟩ := HG.out.row HCH.out HLN.out hlt
                    obtain rfl := Option.some.inj ei
                    obtain ⟨ad', Ak, ck, ek, hck, hrk⟩ := HG.out.row HCH.out HLN.out (show k < n by omega)
                    obtain rfl := Option.some.inj ek
                    have hkn : (k : Int) < (n : Int) := by omega
                    have HCE : Hid (∀ W, Below wr.heap.size wr W → W.cell? (ad.add j) = some (.slice Aj m cj) ∧ W.cell? (ad.add i) = some (.slice Ai m ci) ∧ W.cell? (ad.add k) = some (.slice Ak m ck)) := fun W hW => by
                      obtain ⟨a1, A1, c1, x1, y1, _, z1, _⟩ := HG.out.rss.at_ hj
                      cases x1
                      exact ⟨(hW.cell (p := ad.add j) (by rw [block_of_add]; exact y1)).trans hcj, (hW.cell (p := ad.add i) (by rw [block_of_add]; exact y1)).trans hci, (hW.cell (p := ad.add k) (by rw [block_of_add]; exact y1)).trans hck⟩
                    have HC1 := Lib.hid (fun (W : World) (hW : Below wr.heap.size wr W) => l1Below_c Aj Ai m cj ci (ent zs j) (ent zs i) W (hrj.below hW) (hri.below hW) HP1.out)
                    have HC2 := Lib.hid (fun (W : World) (hW : Below wr.heap.size wr W) => l1Below_c Aj Ak m cj ck (ent zs j) (ent zs k) W (hrj.below hW) (hrk.below hW) HP2.out)
                    have HBB : Hid (bbB zs i k j = (beB (ent zs j) (ent zs i) && beB (ent zs j) (ent zs k))) := rfl
                    have HD : Hid (Below wr.heap.size wr (wr.drewN 1)) := below_drewN (Below.refl _ wr) 1
                    clear hchj hchi hchk hrj hri hrk ei ek
                    generalize beB (ent zs j) (ent zs i) = b1 at *
                    generalize beB (ent zs j) (ent zs k) = b2 at *
                    cases b1
                    · have HJ2 : Hid (∀ t, t < j + 1 → bbB zs i k t = false) := fun t ht => by
                        rcases Nat.lt_or_eq_of_le (Nat.le_of_lt_succ ht) with h | rfl
                        · exact HJ.out t h
                        · rw [HBB.out]; rfl
                      clear HC2
                      go_wp2
                      --R1
                      refine wp_region_held_drew (S := fun w' => w'.cell? (ad.add j) = some (.slice Aj m cj) ∧ w'.cell? (ad.add i) = some (.slice Ai m ci) ∧ w'.cell? (ad.add k) = some (.slice Ak m ck)) (by kernel_rfl) ?_ (fun hHeld => ?_)
                      · exact ⟨hcj, hci, hck⟩
                      refine wpAnyH_take (i := 0) (v := .slice (some ad) n c) (by rw [List.getElem?_toArray]; rfl) (by kernel_rfl) (by kernel_rfl) (by kernel_rfl) (by exact fun _ _ _ h => h) (Or.inl ⟨by rfl, fun w hSw => by (try dsimp only at hSw); go_simp⟩) (by assumption) ?_
                      try simp only [Act.put, List.setIfInBounds_toArray, List.set_cons_zero, List.set_cons_succ]
                      refine wpAnyH_take (i := 1) (v := .int .i64 (j : Int)) (by rw [List.getElem?_toArray]; rfl) (by kernel_rfl) (by kernel_rfl) (by kernel_rfl) (by exact fun _ _ _ h => h) (Or.inl ⟨by rfl, fun w hSw => by (try dsimp only at hSw); go_simp⟩) (by assumption) ?_
                      try simp only [Act.put, List.setIfInBounds_toArray, List.set_cons_zero, List.set_cons_succ]
                      refine wpAnyH_take (i := 2) (v := .pointer (some (ad.add j))) (by rw [List.getElem?_toArray]; rfl) (by kernel_rfl) (by kernel_rfl) (by kernel_rfl) (by exact fun _ _ _ h => h) (Or.inl ⟨by rfl, fun w hSw => by (try dsimp only at hSw); go_simp⟩) (by assumption) ?_
                      try simp only [Act.put, List.setIfInBounds_toArray, List.set_cons_zero, List.set_cons_succ]
                      refine wpAnyH_take (i := 3) (v := .slice Aj m cj) (by rw [List.getElem?_toArray]; rfl) (by kernel_rfl) (by kernel_rfl) (by kernel_rfl) (by exact fun _ _ _ h => h) (Or.inl ⟨by rfl, fun w hSw => by (try dsimp only at hSw); go_simp⟩) (by assumption) ?_
                      try simp only [Act.put, List.setIfInBounds_toArray, List.set_cons_zero, List.set_cons_succ]
                      refine wpAnyH_take (i := 4) (v := .slice (some ad) n c) (by rw [List.getElem?_toArray]; rfl) (by kernel_rfl) (by kernel_rfl) (by kernel_rfl) (by exact fun _ _ _ h => h) (Or.inl ⟨by rfl, fun w hSw => by (try dsimp only at hSw); go_simp⟩) (by assumption) ?_
                      try simp only [Act.put, List.setIfInBounds_toArray, List.set_cons_zero, List.set_cons_succ]
                      refine wpAnyH_take (i := 5) (v := .int .i64 (i : Int)) (by rw [List.getElem?_toArray]; rfl) (by kernel_rfl) (by kernel_rfl) (by kernel_rfl) (by exact fun _ _ _ h => h) (Or.inl ⟨by rfl, fun w hSw => by (try dsimp only at hSw); go_simp⟩) (by assumption) ?_
                      try simp only [Act.put, List.setIfInBounds_toArray, List.set_cons_zero, List.set_cons_succ]
                      refine wpAnyH_take (i := 6) (v := .pointer (some (ad.add i))) (by rw [List.getElem?_toArray]; rfl) (by kernel_rfl) (by kernel_rfl) (by kernel_rfl) (by exact fun _ _ _ h => h) (Or.inl ⟨by rfl, fun w hSw => by (try dsimp only at hSw); go_simp⟩) (by assumption) ?_
                      try simp only [Act.put, List.setIfInBounds_toArray, List.set_cons_zero, List.set_cons_succ]
                      refine wpAnyH_take (i := 7) (v := .slice Ai m ci) (by rw [List.getElem?_toArray]; rfl) (by kernel_rfl) (by kernel_rfl) (by kernel_rfl) (by exact fun _ _ _ h => h) (Or.inl ⟨by rfl, fun w hSw => by (try dsimp only at hSw); go_simp⟩) (by assumption) ?_
                      try simp only [Act.put, List.setIfInBounds_toArray, List.set_cons_zero, List.set_cons_succ]
                      refine wpAnyH_ready (rs := [8]) (by kernel_rfl) (by simp) ?_
                      refine AllReadyH.cons (o := _) (by rw [List.getElem?_toArray]; rfl) (fun K hK => ?_) AllReadyH.nil
                      go_simp
                      go_at_call 56
                      refine Calls.mono (HC1.out _ HD.out) ?_
                      rintro x V1 ⟨rfl, q3, rfl⟩
                      refine hK.out _ _ ?_ (fun hHeld8 => ?_)
                      · exact ⟨hcj, hci, hck⟩
                      clear hK K
                      try simp only [Act.put, List.setIfInBounds_toArray, List.set_cons_zero, List.set_cons_succ]
                      refine wpAnyH_take (i := 9) (v := .bool false) (by rw [List.getElem?_toArray]; rfl) (by kernel_rfl) (by kernel_rfl) (by kernel_rfl) (by exact fun _ _ _ h => h) (Or.inl ⟨by rfl, fun w hSw => by (try dsimp only at hSw); go_simp⟩) (by assumption) ?_
                      try simp only [Act.put, List.setIfInBounds_toArray, List.set_cons_zero, List.set_cons_succ]
                      refine wpAnyH_take (i := 10) (v := undef) (by rw [List.getElem?_toArray]; rfl) (by kernel_rfl) (by kernel_rfl) (by kernel_rfl) (by exact fun _ _ _ h => h) (Or.inr ⟨by kernel_rfl, rfl⟩) (by assumption) ?_
                      try simp only [Act.put, List.setIfInBounds_toArray, List.set_cons_zero, List.set_cons_succ]
                      refine wpAnyH_take (i := 11) (v := undef) (by rw [List.getElem?_toArray]; rfl) (by kernel_rfl) (by kernel_rfl) (by kernel_rfl) (by exact fun _ _ _ h => h) (Or.inr ⟨by kernel_rfl, rfl⟩) (by assumption) ?_
                      try simp only [Act.put, List.setIfInBounds_toArray, List.set_cons_zero, List.set_cons_succ]
                      refine wpAnyH_take (i := 12) (v := undef) (by rw [List.getElem?_toArray]; rfl) (by kernel_rfl) (by kernel_rfl) (by kernel_rfl) (by exact fun _ _ _ h => h) (Or.inr ⟨by kernel_rfl, rfl⟩) (by assumption) ?_
                      try simp only [Act.put, List.setIfInBounds_toArray, List.set_cons_zero, List.set_cons_succ]
                      refine wpAnyH_take (i := 13) (v := undef) (by rw [List.getElem?_toArray]; rfl) (by kernel_rfl) (by kernel_rfl) (by kernel_rfl) (by exact fun _ _ _ h => h) (Or.inr ⟨by kernel_rfl, rfl⟩) (by assumption) ?_
                      try simp only [Act.put, List.setIfInBounds_toArray, List.set_cons_zero, List.set_cons_succ]
                      refine wpAnyH_take (i := 14) (v := undef) (by rw [List.getElem?_toArray]; rfl) (by kernel_rfl) (by kernel_rfl) (by kernel_rfl) (by exact fun _ _ _ h => h) (Or.inr ⟨by kernel_rfl, rfl⟩) (by assumption) ?_
                      try simp only [Act.put, List.setIfInBounds_toArray, List.set_cons_zero, List.set_cons_succ]
                      refine wpAnyH_take (i := 15) (v := undef) (by rw [List.getElem?_toArray]; rfl) (by kernel_rfl) (by kernel_rfl) (by kernel_rfl) (by exact fun _ _ _ h => h) (Or.inr ⟨by kernel_rfl, rfl⟩) (by assumption) ?_
                      try simp only [Act.put, List.setIfInBounds_toArray, List.set_cons_zero, List.set_cons_succ]
                      refine wpAnyH_take (i := 16) (v := undef) (by rw [List.getElem?_toArray]; rfl) (by kernel_rfl) (by kernel_rfl) (by kernel_rfl) (by exact fun _ _ _ h => h) (Or.inr ⟨by kernel_rfl, rfl⟩) (by assumption) ?_
                      try simp only [Act.put, List.setIfInBounds_toArray, List.set_cons_zero, List.set_cons_succ]
                      refine wpAnyH_take (i := 17) (v := undef) (by rw [List.getElem?_toArray]; rfl) (by kernel_rfl) (by kernel_rfl) (by kernel_rfl) (by exact fun _ _ _ h => h) (Or.inr ⟨by kernel_rfl, rfl⟩) (by assumption) ?_
                      try simp only [Act.put, List.setIfInBounds_toArray, List.set_cons_zero, List.set_cons_succ]
                      refine wpAnyH_take (i := 18) (v := undef) (by rw [List.getElem?_toArray]; rfl) (by kernel_rfl) (by kernel_rfl) (by kernel_rfl) (by exact fun _ _ _ h => h) (Or.inr ⟨by kernel_rfl, rfl⟩) (by assumption) ?_
                      try simp only [Act.put, List.setIfInBounds_toArray, List.set_cons_zero, List.set_cons_succ]
                      refine wpAnyH_take (i := 19) (v := .bool false) (by rw [List.getElem?_toArray]; rfl) (by kernel_rfl) (by kernel_rfl) (by kernel_rfl) (by exact fun _ _ _ h => h) (Or.inl ⟨by rfl, fun w hSw => by (try dsimp only at hSw); go_simp⟩) (by assumption) ?_
                      try simp only [Act.put, List.setIfInBounds_toArray, List.set_cons_zero, List.set_cons_succ]
                      refine wpAnyH_done (by kernel_rfl) ?_ _
                      --R1end
                      have HG2 := Lib.hid (HG.out.below (below_drewN (Below.refl _ wr) (1 + q3)))
                      go_wp2
                      go_roundw
                      case rel => exact ⟨j + 1, by omega, by go_num, HG2.out, .inl ⟨rfl, HJ2.out⟩⟩
                      case measure => simp [intOf]; omega
                    · cases b2
                      · have HJ2 : Hid (∀ t, t < j + 1 → bbB zs i k t = false) := fun t ht => by
                          rcases Nat.lt_or_eq_of_le (Nat.le_of_lt_succ ht) with h | rfl
                          · exact HJ.out t h
                          · rw [HBB.out]; rfl
                        go_wp2
                        --R2
                        refine wp_region_held_drew (S := fun w' => w'.cell? (ad.add j) = some (.slice Aj m cj) ∧ w'.cell? (ad.add i) = some (.slice Ai m ci) ∧ w'.cell? (ad.add k) = some (.slice Ak m ck)) (by kernel_rfl) ?_ (fun hHeld => ?_)
                        · exact ⟨hcj, hci, hck⟩
                        refine wpAnyH_take (i := 0) (v := .slice (some ad) n c) (by rw [List.getElem?_toArray]; rfl) (by kernel_rfl) (by kernel_rfl) (by kernel_rfl) (by exact fun _ _ _ h => h) (Or.inl ⟨by rfl, fun w hSw => by (try dsimp only at hSw); go_simp⟩) (by assumption) ?_
                        try simp only [Act.put, List.setIfInBounds_toArray, List.set_cons_zero, List.set_cons_succ]
                        refine wpAnyH_take (i := 1) (v := .int .i64 (j : Int)) (by rw [List.getElem?_toArray]; rfl) (by kernel_rfl) (by kernel_rfl) (by kernel_rfl) (by exact fun _ _ _ h => h) (Or.inl ⟨by rfl, fun w hSw => by (try dsimp only at hSw); go_simp⟩) (by assumption) ?_
                        try simp only [Act.put, List.setIfInBounds_toArray, List.set_cons_zero, List.set_cons_succ]
                        refine wpAnyH_take (i := 2) (v := .pointer (some (ad.add j))) (by rw [List.getElem?_toArray]; rfl) (by kernel_rfl) (by kernel_rfl) (by kernel_rfl) (by exact fun _ _ _ h => h) (Or.inl ⟨by rfl, fun w hSw => by (try dsimp only at hSw); go_simp⟩) (by assumption) ?_
                        try simp only [Act.put, List.setIfInBounds_toArray, List.set_cons_zero, List.set_cons_succ]
                        refine wpAnyH_take (i := 3) (v := .slice Aj m cj) (by rw [List.getElem?_toArray]; rfl) (by kernel_rfl) (by kernel_rfl) (by kernel_rfl) (by exact fun _ _ _ h => h) (Or.inl ⟨by rfl, fun w hSw => by (try dsimp only at hSw); go_simp⟩) (by assumption) ?_
                        try simp only [Act.put, List.setIfInBounds_toArray, List.set_cons_zero, List.set_cons_succ]
                        refine wpAnyH_take (i := 4) (v := .slice (some ad) n c) (by rw [List.getElem?_toArray]; rfl) (by kernel_rfl) (by kernel_rfl) (by kernel_rfl) (by exact fun _ _ _ h => h) (Or.inl ⟨by rfl, fun w hSw => by (try dsimp only at hSw); go_simp⟩) (by assumption) ?_
                        try simp only [Act.put, List.setIfInBounds_toArray, List.set_cons_zero, List.set_cons_succ]
                        refine wpAnyH_take (i := 5) (v := .int .i64 (i : Int)) (by rw [List.getElem?_toArray]; rfl) (by kernel_rfl) (by kernel_rfl) (by kernel_rfl) (by exact fun _ _ _ h => h) (Or.inl ⟨by rfl, fun w hSw => by (try dsimp only at hSw); go_simp⟩) (by assumption) ?_
                        try simp only [Act.put, List.setIfInBounds_toArray, List.set_cons_zero, List.set_cons_succ]
                        refine wpAnyH_take (i := 6) (v := .pointer (some (ad.add i))) (by rw [List.getElem?_toArray]; rfl) (by kernel_rfl) (by kernel_rfl) (by kernel_rfl) (by exact fun _ _ _ h => h) (Or.inl ⟨by rfl, fun w hSw => by (try dsimp only at hSw); go_simp⟩) (by assumption) ?_
                        try simp only [Act.put, List.setIfInBounds_toArray, List.set_cons_zero, List.set_cons_succ]
                        refine wpAnyH_take (i := 7) (v := .slice Ai m ci) (by rw [List.getElem?_toArray]; rfl) (by kernel_rfl) (by kernel_rfl) (by kernel_rfl) (by exact fun _ _ _ h => h) (Or.inl ⟨by rfl, fun w hSw => by (try dsimp only at hSw); go_simp⟩) (by assumption) ?_
                        try simp only [Act.put, List.setIfInBounds_toArray, List.set_cons_zero, List.set_cons_succ]
                        refine wpAnyH_ready (rs := [8]) (by kernel_rfl) (by simp) ?_
                        refine AllReadyH.cons (o := _) (by rw [List.getElem?_toArray]; rfl) (fun K hK => ?_) AllReadyH.nil
                        go_simp
                        go_at_call 56
                        refine Calls.mono (HC1.out _ HD.out) ?_
                        rintro x V1 ⟨rfl, q3, rfl⟩
                        refine hK.out _ _ ?_ (fun hHeld8 => ?_)
                        · exact ⟨hcj, hci, hck⟩
                        clear hK K
                        try simp only [Act.put, List.setIfInBounds_toArray, List.set_cons_zero, List.set_cons_succ]
                        refine wpAnyH_take (i := 9) (v := .bool true) (by rw [List.getElem?_toArray]; rfl) (by kernel_rfl) (by kernel_rfl) (by kernel_rfl) (by exact fun _ _ _ h => h) (Or.inl ⟨by rfl, fun w hSw => by (try dsimp only at hSw); go_simp⟩) (by assumption) ?_
                        try simp only [Act.put, List.setIfInBounds_toArray, List.set_cons_zero, List.set_cons_succ]
                        refine wpAnyH_take (i := 10) (v := .slice (some ad) n c) (by rw [List.getElem?_toArray]; rfl) (by kernel_rfl) (by kernel_rfl) (by kernel_rfl) (by exact fun _ _ _ h => h) (Or.inl ⟨by rfl, fun w hSw => by (try dsimp only at hSw); go_simp⟩) (by assumption) ?_
                        try simp only [Act.put, List.setIfInBounds_toArray, List.set_cons_zero, List.set_cons_succ]
                        refine wpAnyH_take (i := 11) (v := .int .i64 (j : Int)) (by rw [List.getElem?_toArray]; rfl) (by kernel_rfl) (by kernel_rfl) (by kernel_rfl) (by exact fun _ _ _ h => h) (Or.inl ⟨by rfl, fun w hSw => by (try dsimp only at hSw); go_simp⟩) (by assumption) ?_
                        try simp only [Act.put, List.setIfInBounds_toArray, List.set_cons_zero, List.set_cons_succ]
                        refine wpAnyH_take (i := 12) (v := .pointer (some (ad.add j))) (by rw [List.getElem?_toArray]; rfl) (by kernel_rfl) (by kernel_rfl) (by kernel_rfl) (by exact fun _ _ _ h => h) (Or.inl ⟨by rfl, fun w hSw => by (try dsimp only at hSw); go_simp⟩) (by assumption) ?_
                        try simp only [Act.put, List.setIfInBounds_toArray, List.set_cons_zero, List.set_cons_succ]
                        refine wpAnyH_take (i := 13) (v := .slice Aj m cj) (by rw [List.getElem?_toArray]; rfl) (by kernel_rfl) (by kernel_rfl) (by kernel_rfl) (by exact fun _ _ _ h => h) (Or.inl ⟨by rfl, fun w hSw => by (try dsimp only at hSw); go_simp⟩) (by assumption) ?_
                        try simp only [Act.put, List.setIfInBounds_toArray, List.set_cons_zero, List.set_cons_succ]
                        refine wpAnyH_take (i := 14) (v := .slice (some ad) n c) (by rw [List.getElem?_toArray]; rfl) (by kernel_rfl) (by kernel_rfl) (by kernel_rfl) (by exact fun _ _ _ h => h) (Or.inl ⟨by rfl, fun w hSw => by (try dsimp only at hSw); go_simp⟩) (by assumption) ?_
                        try simp only [Act.put, List.setIfInBounds_toArray, List.set_cons_zero, List.set_cons_succ]
                        refine wpAnyH_take (i := 15) (v := .int .i64 (k : Int)) (by rw [List.getElem?_toArray]; rfl) (by kernel_rfl) (by kernel_rfl) (by kernel_rfl) (by exact fun _ _ _ h => h) (Or.inl ⟨by rfl, fun w hSw => by (try dsimp only at hSw); go_simp⟩) (by assumption) ?_
                        try simp only [Act.put, List.setIfInBounds_toArray, List.set_cons_zero, List.set_cons_succ]
                        refine wpAnyH_take (i := 16) (v := .pointer (some (ad.add k))) (by rw [List.getElem?_toArray]; rfl) (by kernel_rfl) (by kernel_rfl) (by kernel_rfl) (by exact fun _ _ _ h => h) (Or.inl ⟨by rfl, fun w hSw => by (try dsimp only at hSw); go_simp⟩) (by assumption) ?_
                        try simp only [Act.put, List.setIfInBounds_toArray, List.set_cons_zero, List.set_cons_succ]
                        refine wpAnyH_take (i := 17) (v := .slice Ak m ck) (by rw [List.getElem?_toArray]; rfl) (by kernel_rfl) (by kernel_rfl) (by kernel_rfl) (by exact fun _ _ _ h => h) (Or.inl ⟨by rfl, fun w hSw => by (try dsimp only at hSw); go_simp⟩) (by assumption) ?_
                        try simp only [Act.put, List.setIfInBounds_toArray, List.set_cons_zero, List.set_cons_succ]
                        refine wpAnyH_ready (rs := [18]) (by kernel_rfl) (by simp) ?_
                        refine AllReadyH.cons (o := _) (by rw [List.getElem?_toArray]; rfl) (fun K hK => ?_) AllReadyH.nil
                        go_simp
                        go_at_call 56
                        refine Calls.mono (HC2.out _ (below_drewN (Below.refl _ wr) (1 + q3))) ?_
                        rintro x V2 ⟨rfl, q4, rfl⟩
                        refine hK.out _ _ ?_ (fun hHeld18 => ?_)
                        · exact ⟨hcj, hci, hck⟩
                        clear hK K
                        try simp only [Act.put, List.setIfInBounds_toArray, List.set_cons_zero, List.set_cons_succ]
                        refine wpAnyH_take (i := 19) (v := .bool false) (by rw [List.getElem?_toArray]; rfl) (by kernel_rfl) (by kernel_rfl) (by kernel_rfl) (by exact fun _ _ _ h => h) (Or.inl ⟨by rfl, fun w hSw => by (try dsimp only at hSw); go_simp⟩) (by assumption) ?_
                        try simp only [Act.put, List.setIfInBounds_toArray, List.set_cons_zero, List.set_cons_succ]
                        refine wpAnyH_done (by kernel_rfl) ?_ _
                        --R2end
                        have HG2 := Lib.hid (HG.out.below (below_drewN (Below.refl _ wr) (1 + q3 + q4)))
                        go_wp2
                        go_roundw
                        case rel => exact ⟨j + 1, by omega, by go_num, HG2.out, .inl ⟨rfl, HJ2.out⟩⟩
                        case measure => simp [intOf]; omega
                      · have HCC : Hid (cf k = cf i) := HK1.out i k j hlt (by omega) hj HBB.out
                        have hfk : fsE cf k = k := fsE_is (Nat.le_refl _) rfl (fun t ht => by rw [HCC.out]; exact HN.out t ht)
                        have HRT : Hid (∀ W, Below wr.heap.size wr W → ∃ ar, Ar = some ar ∧ W.cell? (ar.add k) = some (.int .i64 (k : Int))) := fun W hW => by
                          obtain ⟨ar, ea, _, hc⟩ := (RI.of_own (own_below HG.out.own hW)).at_ hkl
                          rw [rtL_get cf hkl, hfk] at hc
                          exact ⟨ar, ea, hc⟩
                        obtain ⟨ar, rfl, _⟩ := HRT.out _ (Below.refl _ wr)
                        clear hfk
                        go_wp2
                        --R3
                        refine wp_region_held_drew (S := fun w' => w'.cell? (ad.add j) = some (.slice Aj m cj) ∧ w'.cell? (ad.add i) = some (.slice Ai m ci) ∧ w'.cell? (ad.add k) = some (.slice Ak m ck)) (by kernel_rfl) ?_ (fun hHeld => ?_)
                        · exact ⟨hcj, hci, hck⟩
                        refine wpAnyH_take (i := 0) (v := .slice (some ad) n c) (by rw [List.getElem?_toArray]; rfl) (by kernel_rfl) (by kernel_rfl) (by kernel_rfl) (by exact fun _ _ _ h => h) (Or.inl ⟨by rfl, fun w hSw => by (try dsimp only at hSw); go_simp⟩) (by assumption) ?_
                        try simp only [Act.put, List.setIfInBounds_toArray, List.set_cons_zero, List.set_cons_succ]
                        refine wpAnyH_take (i := 1) (v := .int .i64 (j : Int)) (by rw [List.getElem?_toArray]; rfl) (by kernel_rfl) (by kernel_rfl) (by kernel_rfl) (by exact fun _ _ _ h => h) (Or.inl ⟨by rfl, fun w hSw => by (try dsimp only at hSw); go_simp⟩) (by assumption) ?_
                        try simp only [Act.put, List.setIfInBounds_toArray, List.set_cons_zero, List.set_cons_succ]
                        refine wpAnyH_take (i := 2) (v := .pointer (some (ad.add j))) (by rw [List.getElem?_toArray]; rfl) (by kernel_rfl) (by kernel_rfl) (by kernel_rfl) (by exact fun _ _ _ h => h) (Or.inl ⟨by rfl, fun w hSw => by (try dsimp only at hSw); go_simp⟩) (by assumption) ?_
                        try simp only [Act.put, List.setIfInBounds_toArray, List.set_cons_zero, List.set_cons_succ]
                        refine wpAnyH_take (i := 3) (v := .slice Aj m cj) (by rw [List.getElem?_toArray]; rfl) (by kernel_rfl) (by kernel_rfl) (by kernel_rfl) (by exact fun _ _ _ h => h) (Or.inl ⟨by rfl, fun w hSw => by (try dsimp only at hSw); go_simp⟩) (by assumption) ?_
                        try simp only [Act.put, List.setIfInBounds_toArray, List.set_cons_zero, List.set_cons_succ]
                        refine wpAnyH_take (i := 4) (v := .slice (some ad) n c) (by rw [List.getElem?_toArray]; rfl) (by kernel_rfl) (by kernel_rfl) (by kernel_rfl) (by exact fun _ _ _ h => h) (Or.inl ⟨by rfl, fun w hSw => by (try dsimp only at hSw); go_simp⟩) (by assumption) ?_
                        try simp only [Act.put, List.setIfInBounds_toArray, List.set_cons_zero, List.set_cons_succ]
                        refine wpAnyH_take (i := 5) (v := .int .i64 (i : Int)) (by rw [List.getElem?_toArray]; rfl) (by kernel_rfl) (by kernel_rfl) (by kernel_rfl) (by exact fun _ _ _ h => h) (Or.inl ⟨by rfl, fun w hSw => by (try dsimp only at hSw); go_simp⟩) (by assumption) ?_
                        try simp only [Act.put, List.setIfInBounds_toArray, List.set_cons_zero, List.set_cons_succ]
                        refine wpAnyH_take (i := 6) (v := .pointer (some (ad.add i))) (by rw [List.getElem?_toArray]; rfl) (by kernel_rfl) (by kernel_rfl) (by kernel_rfl) (by exact fun _ _ _ h => h) (Or.inl ⟨by rfl, fun w hSw => by (try dsimp only at hSw); go_simp⟩) (by assumption) ?_
                        try simp only [Act.put, List.setIfInBounds_toArray, List.set_cons_zero, List.set_cons_succ]
                        refine wpAnyH_take (i := 7) (v := .slice Ai m ci) (by rw [List.getElem?_toArray]; rfl) (by kernel_rfl) (by kernel_rfl) (by kernel_rfl) (by exact fun _ _ _ h => h) (Or.inl ⟨by rfl, fun w hSw => by (try dsimp only at hSw); go_simp⟩) (by assumption) ?_
                        try simp only [Act.put, List.setIfInBounds_toArray, List.set_cons_zero, List.set_cons_succ]
                        refine wpAnyH_ready (rs := [8]) (by kernel_rfl) (by simp) ?_
                        refine AllReadyH.cons (o := _) (by rw [List.getElem?_toArray]; rfl) (fun K hK => ?_) AllReadyH.nil
                        go_simp
                        go_at_call 56
                        refine Calls.mono (HC1.out _ HD.out) ?_
                        rintro x V1 ⟨rfl, q3, rfl⟩
                        refine hK.out _ _ ?_ (fun hHeld8 => ?_)
                        · exact ⟨hcj, hci, hck⟩
                        clear hK K
                        try simp only [Act.put, List.setIfInBounds_toArray, List.set_cons_zero, List.set_cons_succ]
                        refine wpAnyH_take (i := 9) (v := .bool true) (by rw [List.getElem?_toArray]; rfl) (by kernel_rfl) (by kernel_rfl) (by kernel_rfl) (by exact fun _ _ _ h => h) (Or.inl ⟨by rfl, fun w hSw => by (try dsimp only at hSw); go_simp⟩) (by assumption) ?_
                        try simp only [Act.put, List.setIfInBounds_toArray, List.set_cons_zero, List.set_cons_succ]
                        refine wpAnyH_take (i := 10) (v := .slice (some ad) n c) (by rw [List.getElem?_toArray]; rfl) (by kernel_rfl) (by kernel_rfl) (by kernel_rfl) (by exact fun _ _ _ h => h) (Or.inl ⟨by rfl, fun w hSw => by (try dsimp only at hSw); go_simp⟩) (by assumption) ?_
                        try simp only [Act.put, List.setIfInBounds_toArray, List.set_cons_zero, List.set_cons_succ]
                        refine wpAnyH_take (i := 11) (v := .int .i64 (j : Int)) (by rw [List.getElem?_toArray]; rfl) (by kernel_rfl) (by kernel_rfl) (by kernel_rfl) (by exact fun _ _ _ h => h) (Or.inl ⟨by rfl, fun w hSw => by (try dsimp only at hSw); go_simp⟩) (by assumption) ?_
                        try simp only [Act.put, List.setIfInBounds_toArray, List.set_cons_zero, List.set_cons_succ]
                        refine wpAnyH_take (i := 12) (v := .pointer (some (ad.add j))) (by rw [List.getElem?_toArray]; rfl) (by kernel_rfl) (by kernel_rfl) (by kernel_rfl) (by exact fun _ _ _ h => h) (Or.inl ⟨by rfl, fun w hSw => by (try dsimp only at hSw); go_simp⟩) (by assumption) ?_
                        try simp only [Act.put, List.setIfInBounds_toArray, List.set_cons_zero, List.set_cons_succ]
                        refine wpAnyH_take (i := 13) (v := .slice Aj m cj) (by rw [List.getElem?_toArray]; rfl) (by kernel_rfl) (by kernel_rfl) (by kernel_rfl) (by exact fun _ _ _ h => h) (Or.inl ⟨by rfl, fun w hSw => by (try dsimp only at hSw); go_simp⟩) (by assumption) ?_
                        try simp only [Act.put, List.setIfInBounds_toArray, List.set_cons_zero, List.set_cons_succ]
                        refine wpAnyH_take (i := 14) (v := .slice (some ad) n c) (by rw [List.getElem?_toArray]; rfl) (by kernel_rfl) (by kernel_rfl) (by kernel_rfl) (by exact fun _ _ _ h => h) (Or.inl ⟨by rfl, fun w hSw => by (try dsimp only at hSw); go_simp⟩) (by assumption) ?_
                        try simp only [Act.put, List.setIfInBounds_toArray, List.set_cons_zero, List.set_cons_succ]
                        refine wpAnyH_take (i := 15) (v := .int .i64 (k : Int)) (by rw [List.getElem?_toArray]; rfl) (by kernel_rfl) (by kernel_rfl) (by kernel_rfl) (by exact fun _ _ _ h => h) (Or.inl ⟨by rfl, fun w hSw => by (try dsimp only at hSw); go_simp⟩) (by assumption) ?_
                        try simp only [Act.put, List.setIfInBounds_toArray, List.set_cons_zero, List.set_cons_succ]
                        refine wpAnyH_take (i := 16) (v := .pointer (some (ad.add k))) (by rw [List.getElem?_toArray]; rfl) (by kernel_rfl) (by kernel_rfl) (by kernel_rfl) (by exact fun _ _ _ h => h) (Or.inl ⟨by rfl, fun w hSw => by (try dsimp only at hSw); go_simp⟩) (by assumption) ?_
                        try simp only [Act.put, List.setIfInBounds_toArray, List.set_cons_zero, List.set_cons_succ]
                        refine wpAnyH_take (i := 17) (v := .slice Ak m ck) (by rw [List.getElem?_toArray]; rfl) (by kernel_rfl) (by kernel_rfl) (by kernel_rfl) (by exact fun _ _ _ h => h) (Or.inl ⟨by rfl, fun w hSw => by (try dsimp only at hSw); go_simp⟩) (by assumption) ?_
                        try simp only [Act.put, List.setIfInBounds_toArray, List.set_cons_zero, List.set_cons_succ]
                        refine wpAnyH_ready (rs := [18]) (by kernel_rfl) (by simp) ?_
                        refine AllReadyH.cons (o := _) (by rw [List.getElem?_toArray]; rfl) (fun K hK => ?_) AllReadyH.nil
                        go_simp
                        go_at_call 56
                        refine Calls.mono (HC2.out _ (below_drewN (Below.refl _ wr) (1 + q3))) ?_
                        rintro x V2 ⟨rfl, q4, rfl⟩
                        refine hK.out _ _ ?_ (fun hHeld18 => ?_)
                        · exact ⟨hcj, hci, hck⟩
                        clear hK K
                        try simp only [Act.put, List.setIfInBounds_toArray, List.set_cons_zero, List.set_cons_succ]
                        refine wpAnyH_take (i := 19) (v := .bool true) (by rw [List.getElem?_toArray]; rfl) (by kernel_rfl) (by kernel_rfl) (by kernel_rfl) (by exact fun _ _ _ h => h) (Or.inl ⟨by rfl, fun w hSw => by (try dsimp only at hSw); go_simp⟩) (by assumption) ?_
                        try simp only [Act.put, List.setIfInBounds_toArray, List.set_cons_zero, List.set_cons_succ]
                        refine wpAnyH_done (by kernel_rfl) ?_ _
                        --R3end
                        have HG2 := Lib.hid (HG.out.below (below_drewN (Below.refl _ wr) (1 + q3 + q4)))
                        obtain ⟨ar', ea, hrt⟩ := HRT.out _ (below_drewN (Below.refl _ wr) (1 + q3 + q4))
                        cases ea
                        go_wp2
                        go_roundw
                        case rel => exact ⟨j + 1, by omega, by go_num, HG2.out, .inr ⟨rfl, HCC.out⟩⟩
                        case measure => simp [intOf]; omega
                  · obtain rfl : j = n := by omega
                    have hjj : ¬ (j : Int) < (j : Int) := by omega
                    have HNK : Hid (∀ t, t < k + 1 → cf t ≠ cf i) := fun t ht => by
                      rcases Nat.lt_or_eq_of_le (Nat.le_of_lt_succ ht) with h | rfl
                      · exact HN.out t h
                      · exact HK2.out i t hlt (by omega) HJ.out
                    go_wp2
                    go_roundw
                    case rel => exact ⟨k + 1, by omega, by go_num, HG.out, .inl ⟨rfl, HNK.out⟩⟩
                    case measure => simp [intOf]; omega
                · have hne : ((k : Int) == (i : Int)) = false := by rw [beq_eq_false_iff_ne]; omega
                  have HFE : Hid (fsE cf i = k) := fsE_is (by omega) HC.out HN.out
                  by_cases hj : j < n
                  · have hjj : (j : Int) < (n : Int) := by omega
                    go_wp2
                    go_roundw
                    case rel => exact ⟨k + 1, by omega, by go_num, HG.out, .inr ⟨k, rfl, hkl, HFE.out⟩⟩
                    case measure => simp [intOf]; omega
                  · have hjj : ¬ (j : Int) < (n : Int) := by omega
                    go_wp2
                    go_roundw
                    case rel => exact ⟨k + 1, by omega, by go_num, HG.out, .inr ⟨k, rfl, hkl, HFE.out⟩⟩
                    case measure => simp [intOf]; omega
            · obtain rfl : k = i := by omega
              have hkk : ¬ (k : Int) < (k : Int) := by omega
              have hfE : fsE cf k = k := fsE_is (Nat.le_refl _) rfl HN.out
              clear HN
              have HST : Hid (ivs (rtL cf k) ++ [.int .i64 (k : Int)] = ivs (rtL cf (k + 1))) := by show _ = _; rw [rtL_snoc, hfE]; simp [ivs]
              have hrow := HG.out.own
              obtain ⟨hws, hBq⟩ := HBW.out _ HG.out.bel
              have h1 : k + 1 ≤ maxLen := by unfold maxLen; omega
              have h2 : (k + 1) * 8 ≤ 140737488355328 := by omega
              have h3 : w.heap.size ≤ (wr.alloc (.cells #[.int .i64 (k : Int)] 3)).heap.size := by simp; omega
              clear hfE HG
              go_wp2_with (at_builtin; refine wpList_append_own _ rfl _ _ 24 rfl w.heap.size 3 i0 (.int .i64 0) 1 8 Tryz.underlying24 hi hz0 hz1 hz2 rfl (by decide) _ _ _ rfl (hrow.alloc _) ⟨wr.heap.size, 0, none⟩ 1 1 [.int .i64 (k : Int)] rfl rfl (cell_one_new _ _ _) (by simp [Value.oneCell']) h1 h2 h3 ?_; intro v' w5 hown' hgrow _)
              rw [HST.out] at hown'
              have hB5 := (hBq.alloc hws _).grown hgrow (by simp; omega) (fun g e => by have := (hrow.lt g e).1; omega)
              clear hgrow hrow hBq
              go_roundw
              case rel => exact ⟨k + 1, by omega, by go_num, hown', hB5⟩
              case measure => simp [intOf]; omega
          · have hne : ((f : Int) == (i : Int)) = false := by rw [beq_eq_false_iff_ne]; omega
            have hfE := HF.out
            by_cases hkl : k < i
            · have hkk : (k : Int) < (i : Int) := by omega
              clear HF
              have HST : Hid (ivs (rtL cf i) ++ [.int .i64 (f : Int)] = ivs (rtL cf (i + 1))) := by show _ = _; rw [rtL_snoc, hfE]; simp [ivs]
              have hrow := HG.out.own
              obtain ⟨hws, hBq⟩ := HBW.out _ HG.out.bel
              have h1 : i + 1 ≤ maxLen := by unfold maxLen; omega
              have h2 : (i + 1) * 8 ≤ 140737488355328 := by omega
              have h3 : w.heap.size ≤ (wr.alloc (.cells #[.int .i64 (f : Int)] 3)).heap.size := by simp; omega
              clear hfE HG
              go_wp2_with (at_builtin; refine wpList_append_own _ rfl _ _ 24 rfl w.heap.size 3 i0 (.int .i64 0) 1 8 Tryz.underlying24 hi hz0 hz1 hz2 rfl (by decide) _ _ _ rfl (hrow.alloc _) ⟨wr.heap.size, 0, none⟩ 1 1 [.int .i64 (f : Int)] rfl rfl (cell_one_new _ _ _) (by simp [Value.oneCell']) h1 h2 h3 ?_; intro v' w5 hown' hgrow _)
              rw [HST.out] at hown'
              have hB5 := (hBq.alloc hws _).grown hgrow (by simp; omega) (fun g e => by have := (hrow.lt g e).1; omega)
              clear hgrow hrow hBq
              go_roundw
              case rel => exact ⟨i + 1, by omega, by go_num, hown', hB5⟩
              case measure => simp [intOf]; omega
            · have hkk : ¬ (k : Int) < (i : Int) := by omega
              clear HF
              have HST : Hid (ivs (rtL cf i) ++ [.int .i64 (f : Int)] = ivs (rtL cf (i + 1))) := by show _ = _; rw [rtL_snoc, hfE]; simp [ivs]
              have hrow := HG.out.own
              obtain ⟨hws, hBq⟩ := HBW.out _ HG.out.bel
              have h1 : i + 1 ≤ maxLen := by unfold maxLen; omega
              have h2 : (i + 1) * 8 ≤ 140737488355328 := by omega
              have h3 : w.heap.size ≤ (wr.alloc (.cells #[.int .i64 (f : Int)] 3)).heap.size := by simp; omega
              clear hfE HG
              go_wp2_with (at_builtin; refine wpList_append_own _ rfl _ _ 24 rfl w.heap.size 3 i0 (.int .i64 0) 1 8 Tryz.underlying24 hi hz0 hz1 hz2 rfl (by decide) _ _ _ rfl (hrow.alloc _) ⟨wr.heap.size, 0, none⟩ 1 1 [.int .i64 (f : Int)] rfl rfl (cell_one_new _ _ _) (by simp [Value.oneCell']) h1 h2 h3 ?_; intro v' w5 hown' hgrow _)
              rw [HST.out] at hown'
              have hB5 := (hBq.alloc hws _).grown hgrow (by simp; omega) (fun g e => by have := (hrow.lt g e).1; omega)
              clear hgrow hrow hBq
              go_roundw
              case rel => exact ⟨i + 1, by omega, by go_num, hown', hB5⟩
              case measure => simp [intOf]; omega
      · obtain rfl : i = n := by omega
        have hkk : ¬ (i : Int) < (i : Int) := by omega
        obtain ⟨Ar, cr, rfl⟩ := own_shape hown
        have hN := l8Numbers_any Ar i cr (rtL cf i) wr (RI.of_own hown) hn
        rw [rtL_nu] at hN
        have hs := hB.size
        go_wp2_with fail
        refine hN.mono ?_
        rintro e w2 ⟨v, rfl, hr, hb⟩
        have hr2 := own_base hr hs
        have hB2 := hB.trans (hb.mono hs)
        clear hN hown hB hr hb
        go_wp2
        go_ret2
        exact ⟨_, rfl, by rw [HO.out, nuL_len]; exact hr2, hB2⟩
end

/-! Congruences told by charts, in memory: (impl.congruence[impl.chart]).mark, numbers. -/
section
open Go.RowKit Go.Maps

set_option maxHeartbeats 1000000 in
theorem markC_any (b : Option Nat) (q nn n c m : Nat) (C : Option Addr) (L : List Int) (v : Int) (D : DataW Unit) (w : World) (hown : w.ownsMap Tryz.prog 58 (plainElem (H := Unit) Tryz.prog 3) q nn D) (hL : isC L = true ∧ L.length = m) (hv : wfI v) (hn : nn < maxLen) :
    Calls Tryz.prog 104 #[.agg #[.map b, .slice C n c, .map (some q)], .agg #[.int .i64 ((m : Int)), .int .i64 (ofL L 0), .int .i64 (ofL L 1), .int .i64 (ofL L 2), .int .i64 (ofL L 3), .int .i64 (ofL L 4), .int .i64 (ofL L 5)], .int .i64 v] w fun e w' => ∃ z, e = .returned (.int .i64 z) ∧ mrkV D (klL L) v z ∧ w'.ownsMap Tryz.prog 58 (plainElem (H := Unit) Tryz.prog 3) q (nn + 1) (mrk D (klL L) v) ∧ w.grownBy w' (some q) := by
  have hkey : keyOf Tryz.prog 58 (.agg #[.int .i64 ((m : Int)), .int .i64 (ofL L 0), .int .i64 (ofL L 1), .int .i64 (ofL L 2), .int .i64 (ofL L 3), .int .i64 (ofL L 4), .int .i64 (ofL L 5)]) = some (klL L) := by have := keyOf_L hL.1; rw [hL.2] at this; exact this
  have hown1 := (hown.alloc (.cells #[.map b, .slice C n c, .map (some q)] 67)).alloc (.cells #[.int .i64 ((m : Int)), .int .i64 (ofL L 0), .int .i64 (ofL L 1), .int .i64 (ofL L 2), .int .i64 (ofL L 3), .int .i64 (ofL L 4), .int .i64 (ofL L 5)] 58)
  have hz : (zeroValue 3).run Tryz.prog ((w.alloc (.cells #[.map b, .slice C n c, .map (some q)] 67)).alloc (.cells #[.int .i64 ((m : Int)), .int .i64 (ofL L 0), .int .i64 (ofL L 1), .int .i64 (ofL L 2), .int .i64 (ofL L 3), .int .i64 (ofL L 4), .int .i64 (ofL L 5)] 58)) = .ok (.int .i64 0) ((w.alloc (.cells #[.map b, .slice C n c, .map (some q)] 67)).alloc (.cells #[.int .i64 ((m : Int)), .int .i64 (ofL L 0), .int .i64 (ofL L 1), .int .i64 (ofL L 2), .int .i64 (ofL L 3), .int .i64 (ofL L 4), .int .i64 (ofL L 5)] 58)) := by kernel_rfl
  have hb0 := (Blk.new w 67 #[.map b, .slice C n c, .map (some q)]).alloc (.cells #[.int .i64 ((m : Int)), .int .i64 (ofL L 0), .int .i64 (ofL L 1), .int .i64 (ofL L 2), .int .i64 (ofL L 3), .int .i64 (ofL L 4), .int .i64 (ofL L 5)] 58)
  have hb2 := hb0.cell 2
  have hch := Cb.new (w.alloc (.cells #[.map b, .slice C n c, .map (some q)] 67)) (m : Int) (ofL L)
  rw [World.size_alloc] at hch
  obtain ⟨a0, a1, a2, a3, a4, a5, a6⟩ := hch.all
  have hg1 := gbTr (gb_al0 w (.cells #[.map b, .slice C n c, .map (some q)] 67) (some q)) (gb_al0 _ (.cells #[.int .i64 ((m : Int)), .int .i64 (ofL L 0), .int .i64 (ofL L 1), .int .i64 (ofL L 2), .int .i64 (ofL L 3), .int .i64 (ofL L 4), .int .i64 (ofL L 5)] 58) (some q))
  have HW : Hid (wfI v) := hv
  clear hown hL hv hch hb0
  cases hh : Maps.has D (klL L)
  · have HM : Hid (mrk D (klL L) v = D.put (klL L) (.lit (.int .i64 v))) := by show _ = _; unfold mrk; rw [hh]; rfl
    have HV : Hid (mrkV D (klL L) v v) := ⟨fun e => (by rw [hh] at e; cases e), fun _ => rfl⟩
    go_enter Tryz.func104, Tryz.ntmps104
    go_wp2_with (first
      | (at_lookup; refine wpList_lookup_own_ok_int _ rfl _ _ 47 rfl 58 3 .i64 ch_keyed Tryz.underlying47 Tryz.underlying3 hz q nn D rfl hown1 _ (klL L) rfl hkey ?_; intro z hat hwc)
      | (at_mapUpdate; refine wpList_mapUpdate_own _ rfl _ _ _ 47 rfl 58 3 ch_keyed Tryz.underlying47 _ q nn _ rfl hown1 hn _ _ _ rfl rfl hkey _ [] (plainElem_int Tryz.underlying3 HW.out) ?_; intro w5 hm5 hgr5))
    go_ret
    exact ⟨v, by try rfl, HV.out, by rw [HM.out]; exact hm5, gbTr hg1 hgr5⟩
  · have HM : Hid (mrk D (klL L) v = D) := by show _ = _; unfold mrk; rw [hh]; rfl
    have HV : Hid (∀ z, D.atKey (klL L) (.lit (.int .i64 0)) = .lit (.int .i64 z) → mrkV D (klL L) v z) := fun z hz => ⟨fun _ => hz, fun e => (by rw [hh] at e; cases e)⟩
    go_enter Tryz.func104, Tryz.ntmps104
    go_wp2_with (at_lookup; refine wpList_lookup_own_ok_int _ rfl _ _ 47 rfl 58 3 .i64 ch_keyed Tryz.underlying47 Tryz.underlying3 hz q nn D rfl hown1 _ (klL L) rfl hkey ?_; intro z hat hwc)
    go_ret
    exact ⟨z, by try rfl, HV.out z hat, by rw [HM.out]; exact hown1.mono (Nat.le_succ _), hg1⟩
/-- the numbers when k of the classes are marked -/
structure NuC (w wr : World) (b : Option Nat) (q n c k : Nat) (C : Option Addr) (cl : List (List Int)) (v : Value) : Prop where
  row : wr.ownsRow w.heap.size 3 1 v k (ivs (nuL (ent cl) k))
  mkd : wr.ownsMap Tryz.prog 58 (plainElem (H := Unit) Tryz.prog 3) q k (mrD (ent cl) klL (fun i => (frC (ent cl) i : Int)) k)
  gr : w.grownBy wr (some q)
  bx : Blk wr w.heap.size 67 #[.map b, .slice C n c, .map (some q)]
  ql : q < w.heap.size
section
variable {w wr w' : World} {b : Option Nat} {q n c k : Nat} {C : Option Addr} {cl : List (List Int)} {v : Value}
theorem NuC.ne (h : NuC w wr b q n c k C cl v) : v.ownBlock ≠ some q := fun e => by have := (h.row.lt q e).1; have := h.ql; omega
theorem NuC.nb (h : NuC w wr b q n c k C cl v) : v.ownBlock ≠ some w.heap.size := own_blk_ne h.row h.bx (by decide)
end
theorem own_mapC {w : World} {lo size n q nn : Nat} {e : TypeId} {v : Value} {xs : List Value} {K : TypeId} {R : Value → Option (DataW Unit × List MemPlace)} {D : DataW Unit} (h : w.ownsRow lo e size v n xs) (hm : w.ownsMap Tryz.prog K R q nn D) : v.ownBlock = none ∨ v.ownBlock ≠ some q := by
  rcases h.2 with ⟨rfl, _⟩ | ⟨g, cp, cur, rfl, _, hb, _⟩
  · exact .inl rfl
  · refine .inr (fun e => ?_)
    obtain ⟨es, clock, hq, _⟩ := hm
    have e2 : g = q := by injection e
    subst e2
    rw [hb] at hq
    cases hq
set_option maxHeartbeats 2000000 in
theorem numbersC_any (b : Option Nat) (q nn c m n lo : Nat) (C : Option Addr) (cl : List (List Int)) (D : DataW Unit) (w : World) (hn : cl.length = n) (hn4 : n ≤ 1048576) (hw : ∀ L ∈ cl, isC L = true ∧ L.length = m) (hC : w.ownsRow lo 58 7 (.slice C n c) n (cwc m cl)) (hown : w.ownsMap Tryz.prog 58 (plainElem (H := Unit) Tryz.prog 3) q nn D) :
    Calls Tryz.prog 55 #[.agg #[.map b, .slice C n c, .map (some q)]] w fun e w' => ∃ v, e = .returned v ∧ w'.ownsRow w.heap.size 3 1 v n (ivs (nuL (ent cl) n)) ∧ w.grownBy w' (some q) := by
  obtain ⟨i0, hi, hz0, hz1, hz2⟩ := info_parts info_int
  have HB0 := Lib.hid (Blk.new w 67 #[.map b, .slice C n c, .map (some q)])
  have hg0 := gb_al0 w (.cells #[.map b, .slice C n c, .map (some q)] 67) (some q)
  have hown1 := hown.alloc (.cells #[.map b, .slice C n c, .map (some q)] 67)
  have hql : q < w.heap.size := hown.lt
  have HC := Lib.hid (fun (W : World) (hg : w.grownBy W (some q)) => hC.kept hg (own_mapC hC hown))
  have HWF := Lib.hid hw
  have HINJ : Hid (∀ i j, i < n → j < n → klL (ent cl i) = klL (ent cl j) → ent cl i = ent cl j) := fun i j h1 h2 e => klL_inj _ _ (hw _ (ent_mem (by omega))).1 (hw _ (ent_mem (by omega))).1 e
  have b1 := HB0.out.cell 1
  have b2 := HB0.out.cell 2
  obtain ⟨w1, hrun, hm1, hg1⟩ := clear_run (t := 47) _ Tryz.underlying47 hown1 0
  have hbx := blk_kept HB0.out hg1 (row_map hown1)
  have HN0 : Hid (NuC w w1 b q n c 0 C cl (.slice none 0 0)) := ⟨World.ownsRow_nil _ _ _ _, hm1, gbTr hg0 hg1, hbx, hql⟩
  have d1 := hbx.cell 1
  have HNN := Lib.hid hn
  clear hown hC hw hown1 hm1 hg1 hg0 hbx hn
  go_enter Tryz.func55, Tryz.ntmps55
  go_wp2
  go_loopw [3, 11] (fun v s wr => ∃ k : Nat, k ≤ n ∧ s = .int .i64 (k : Int) ∧ Hid (NuC w wr b q n c k C cl v)) (fun _ s _ => n - (intOf s).toNat)
  case atStart => exact ⟨0, Nat.zero_le _, rfl, HN0.out⟩
  case round =>
    clear HN0 d1 b1 b2 hrun
    obtain ⟨k, hkn, rfl, HN⟩ := hrel
    by_cases hlt : k < n
    · have hkk : (k : Int) < (n : Int) := by omega
      have hkl : k < cl.length := by have := HNN.out; omega
      have hLk : cl[k]? = some (ent cl k) := by unfold ent; rw [List.getElem?_eq_getElem hkl]; rfl
      have hr := HC.out wr HN.out.gr
      obtain ⟨g1, cp1, hv, _, hg1⟩ := hr.form (by omega)
      injection hv with hv1 _ hv3
      subst hv1
      have hC1 : Chs wr g1 m cl := Chs.of_own (by rw [HNN.out]; exact hr)
      obtain ⟨c0, c1, c2, c3, c4, c5, c6⟩ := hC1.all hLk
      have hLC := HWF.out _ (ent_mem hkl)
      have hfk := frC_le (ent cl) k
      have hwv : wfI (frC (ent cl) k : Int) := WalkArith.wf_i64 (by omega)
      have hmk := HN.out.mkd.alloc (.cells #[.int .i64 ((m : Int)), .int .i64 (ofL (ent cl k) 0), .int .i64 (ofL (ent cl k) 1), .int .i64 (ofL (ent cl k) 2), .int .i64 (ofL (ent cl k) 3), .int .i64 (ofL (ent cl k) 4), .int .i64 (ofL (ent cl k) 5)] 58)
      have hlen := hmk.len Tryz.underlying47
      rw [mrD_size (kf := klL) (n := n) klL_key (fun i j h1 h2 h => HINJ.out i j h1 h2 h) k hkn] at hlen
      have HMK := Lib.hid (markC_any b q k n c m (some ⟨g1, 0, none⟩) (ent cl k) (frC (ent cl) k : Int) _ (wr.alloc (.cells #[.int .i64 ((m : Int)), .int .i64 (ofL (ent cl k) 0), .int .i64 (ofL (ent cl k) 1), .int .i64 (ofL (ent cl k) 2), .int .i64 (ofL (ent cl k) 3), .int .i64 (ofL (ent cl k) 4), .int .i64 (ofL (ent cl k) 5)] 58)) hmk hLC hwv (by unfold maxLen; omega))
      have HVAL := Lib.hid (fun (z : Int) hz => mrD_val (H := Unit) (c := ent cl) (kf := klL) (v := fun i => (frC (ent cl) i : Int)) (n := n) klL_key (fun i j h1 h2 h => HINJ.out i j h1 h2 h) hlt (z := z) hz)
      have HRM := Lib.hid (row_map hmk)
      have hbx1 := HN.out.bx.alloc (.cells #[.int .i64 ((m : Int)), .int .i64 (ofL (ent cl k) 0), .int .i64 (ofL (ent cl k) 1), .int .i64 (ofL (ent cl k) 2), .int .i64 (ofL (ent cl k) 3), .int .i64 (ofL (ent cl k) 4), .int .i64 (ofL (ent cl k) 5)] 58)
      have d0 := hbx1.cell 0
      have d1 := hbx1.cell 1
      have d2 := hbx1.cell 2
      have HMS : Hid (mrk (mrD (H := Unit) (ent cl) klL (fun i => (frC (ent cl) i : Int)) k) (klL (ent cl k)) (frC (ent cl) k : Int) = mrD (ent cl) klL (fun i => (frC (ent cl) i : Int)) (k + 1)) := rfl
      have HST : Hid (∀ z : Int, z = (nuE (ent cl) k : Int) → ivs (nuL (ent cl) k) ++ [.int .i64 z] = ivs (nuL (ent cl) (k + 1))) := fun z hz => by
        subst hz; rw [nuL_snoc]; simp [ivs]
      have HVE : Hid (∀ z : Int, z = (frC (ent cl) (fsE (ent cl) k) : Int) → z = (nuE (ent cl) k : Int)) := fun z hz => hz
      clear hmk hr hC1 hLk hLC hv3
      generalize mrD (H := Unit) (ent cl) klL (fun i => (frC (ent cl) i : Int)) k = D0 at *
      generalize frC (ent cl) k = f at *
      go_wp2_with fail
      refine HMK.out.mono ?_
      rintro e w2 ⟨z, rfl, hzv, hm2, hg2⟩
      have HSTZ := Lib.hid (HST.out z (HVE.out z (HVAL.out z hzv)))
      rw [HMS.out] at hm2
      have hne := HN.out.ne
      have hnb := HN.out.nb
      have hrow2 := (HN.out.row.alloc (.cells #[.int .i64 ((m : Int)), .int .i64 (ofL (ent cl k) 0), .int .i64 (ofL (ent cl k) 1), .int .i64 (ofL (ent cl k) 2), .int .i64 (ofL (ent cl k) 3), .int .i64 (ofL (ent cl k) 4), .int .i64 (ofL (ent cl k) 5)] 58)).kept hg2 (.inr hne)
      have hbx2 := blk_kept hbx1 hg2 HRM.out
      have hgr2 := gbTr (gbTr HN.out.gr (gb_al0 wr (.cells #[.int .i64 ((m : Int)), .int .i64 (ofL (ent cl k) 0), .int .i64 (ofL (ent cl k) 1), .int .i64 (ofL (ent cl k) 2), .int .i64 (ofL (ent cl k) 3), .int .i64 (ofL (ent cl k) 4), .int .i64 (ofL (ent cl k) 5)] 58) (some q))) hg2
      have h1 : k + 1 ≤ maxLen := by unfold maxLen; omega
      have h2 : (k + 1) * 8 ≤ 140737488355328 := by omega
      have h3 : ∀ o : Obj, w.heap.size ≤ (w2.alloc o).heap.size := fun o => by have := hgr2.size; simp; omega
      clear HMK HVAL HVE HMS hzv hg2 hlen d0 d1 d2 HN hbx1
      go_wp2_with (at_builtin; refine wpList_append_own _ rfl _ _ 24 rfl w.heap.size 3 i0 (.int .i64 0) 1 8 Tryz.underlying24 hi hz0 hz1 hz2 rfl (by decide) _ _ _ rfl (hrow2.alloc _) ⟨w2.heap.size, 0, none⟩ 1 1 [.int .i64 z] rfl rfl (cell_one_new _ _ _) (by simp [Value.oneCell']) h1 h2 (h3 _) ?_; intro v' w5 hown' hgrow _)
      rw [HSTZ.out] at hown'
      have HN2 : Hid (NuC w w5 b q n c (k + 1) (some ⟨g1, 0, none⟩) cl v') := ⟨hown', (hm2.alloc _).kept hgrow (Ne.symm hne), (gbTr hgr2 (gb_al0 w2 _ _)).andThen hgrow (fun j e => .inl (hrow2.lt j e).1), (hbx2.alloc _).grown hgrow (Ne.symm hnb), hql⟩
      clear hown' hgrow hm2 hrow2 hbx2 hgr2
      go_roundw
      case rel => exact ⟨k + 1, by omega, by go_num, HN2.out⟩
      case measure => simp [intOf]; omega
    · obtain rfl : k = n := by omega
      have hkk : ¬ (k : Int) < (k : Int) := by omega
      go_wp2
      go_ret
      exact ⟨_, rfl, HN.out.row, HN.out.gr⟩
end

/-! impl.congruenceOf at charts; (impl.semigroup).groupCongruence. -/
section
open Go.RowKit Go.Maps

set_option maxHeartbeats 2000000 in
theorem cgOfC_any (b m n gf : Nat) (ca cb : Array Value) (zs : List (List Int)) (hn : zs.length = n) (hn6 : n ≤ 1048576) (hz : ∀ L ∈ zs, isC L = true ∧ L.length = m) (hs : Srt zs) (f : List Int → List Int) (w : World)
    (eg : ∀ args w, (callFunc gf args).run Tryz.prog w = .ok (.enter gf args) w)
    (hp : ∀ L ∈ zs, ∀ W, Below w.heap.size w W → Calls Tryz.prog gf (ca ++ #[.agg #[.int .i64 ((m : Int)), .int .i64 (ofL L 0), .int .i64 (ofL L 1), .int .i64 (ofL L 2), .int .i64 (ofL L 3), .int .i64 (ofL L 4), .int .i64 (ofL L 5)]] ++ cb) W fun e W' => e = .returned (.agg #[.int .i64 ((m : Int)), .int .i64 (ofL (f L) 0), .int .i64 (ofL (f L) 1), .int .i64 (ofL (f L) 2), .int .i64 (ofL (f L) 3), .int .i64 (ofL (f L) 4), .int .i64 (ofL (f L) 5)]) ∧ Below W.heap.size W W')
    (hown : w.ownsMap Tryz.prog 58 (plainElem (H := Unit) Tryz.prog 3) b n (mapP klL zs n)) :
    Calls Tryz.prog 101 #[.map (some b), .func (.func gf) ca cb] w fun e w' => ∃ C c q lo, e = .returned (.agg #[.map (some b), .slice C n c, .map (some q)]) ∧ w.heap.size ≤ q ∧ (∃ nn D, w'.ownsMap Tryz.prog 58 (plainElem (H := Unit) Tryz.prog 3) q nn D) ∧ w'.ownsRow lo 58 7 (.slice C n c) n (cwc m (zs.map f)) ∧ Below w.heap.size w w' := by
  obtain ⟨i1, hj, hj0, hj1, hj2⟩ := info_parts info_chart7
  have hbl := hown.lt
  have hB0 := (Below.refl _ w).alloc (Nat.le_refl _) (.cells #[.map none, .slice none 0 0, .map none] 67)
  have hs0 : w.heap.size + 1 = (w.alloc (.cells #[.map none, .slice none 0 0, .map none] 67)).heap.size := by simp
  have HBX := Lib.hid (Blk.new w 67 #[.map none, .slice none 0 0, .map none])
  have hown0 := hown.alloc (.cells #[.map none, .slice none 0 0, .map none] 67)
  have HN := Lib.hid hn
  have HP := Lib.hid hp
  clear hn hp hown
  have hmm := @ run_makeMap Tryz.prog
  go_enter Tryz.func101, Tryz.ntmps101
  go_wp2_with fail
  generalize w.alloc (.cells #[.map none, .slice none 0 0, .map none] 67) = W0 at *
  have hch := charts_any b m n zs HN.out hn6 hz hs W0 hown0
  have HS0 := Lib.hid hs0
  have HB0 := Lib.hid hB0
  have HBW : Hid (∀ W, Below W0.heap.size W0 W → Below w.heap.size w W) := fun W hW => HB0.out.trans (hW.mono HB0.out.size)
  clear hs hown0 hs0 hB0
  refine hch.mono ?_
  rintro e w1 ⟨G, rfl, hrow, hb1⟩
  have hC1 : Chs w1 G m zs := Chs.of_own (by rw [HN.out]; exact hrow)
  have hG := (hrow.lt G rfl).2
  have HG1 : Hid (G < w1.heap.size) := hG
  have hs01 := hb1.size
  clear hch hrow
  go_wp2
  go_loopw [5, 7, 11] (fun v _ i wr => ∃ k : Nat, k ≤ n ∧ i = .int .i64 (k : Int) ∧ wr.ownsRow w1.heap.size 58 7 v k (cwc m ((zs.take k).map f)) ∧ Chs wr G m zs ∧ G < wr.heap.size ∧ Below W0.heap.size W0 wr ∧ w1.heap.size ≤ wr.heap.size) (fun _ _ i _ => n - (intOf i).toNat)
  case atStart => exact ⟨0, Nat.zero_le _, rfl, World.ownsRow_nil _ _ _ _, hC1, hG, hb1, Nat.le_refl _⟩
  case round =>
    clear hC1 hG
    obtain ⟨k, hk, rfl, hown, hC, hG, hB, hs1⟩ := hrel
    by_cases hlt : k < n
    · have hkl : k < zs.length := by have := HN.out; omega
      obtain ⟨L, hL⟩ : ∃ L, zs[k]? = some L := ⟨_, List.getElem?_eq_getElem hkl⟩
      obtain ⟨c0, c1, c2, c3, c4, c5, c6⟩ := hC.all hL
      have hB1 := hB.alloc hB.size (.cells #[.int .i64 ((m : Int)), .int .i64 (ofL L 0), .int .i64 (ofL L 1), .int .i64 (ofL L 2), .int .i64 (ofL L 3), .int .i64 (ofL L 4), .int .i64 (ofL L 5)] 58)
      have hcall := HP.out L (List.mem_of_getElem? hL) (wr.alloc (.cells #[.int .i64 ((m : Int)), .int .i64 (ofL L 0), .int .i64 (ofL L 1), .int .i64 (ofL L 2), .int .i64 (ofL L 3), .int .i64 (ofL L 4), .int .i64 (ofL L 5)] 58)) (HBW.out _ hB1)
      have hown1 := hown.alloc (.cells #[.int .i64 ((m : Int)), .int .i64 (ofL L 0), .int .i64 (ofL L 1), .int .i64 (ofL L 2), .int .i64 (ofL L 3), .int .i64 (ofL L 4), .int .i64 (ofL L 5)] 58)
      have hC2 := hC.same (Below.heap_alloc wr (.cells #[.int .i64 ((m : Int)), .int .i64 (ofL L 0), .int .i64 (ofL L 1), .int .i64 (ofL L 2), .int .i64 (ofL L 3), .int .i64 (ofL L 4), .int .i64 (ofL L 5)] 58) G hG)
      have hG2 : G < (wr.alloc (.cells #[.int .i64 ((m : Int)), .int .i64 (ofL L 0), .int .i64 (ofL L 1), .int .i64 (ofL L 2), .int .i64 (ofL L 3), .int .i64 (ofL L 4), .int .i64 (ofL L 5)] 58)).heap.size := by simp; omega
      have hs2 : w1.heap.size ≤ (wr.alloc (.cells #[.int .i64 ((m : Int)), .int .i64 (ofL L 0), .int .i64 (ofL L 1), .int .i64 (ofL L 2), .int .i64 (ofL L 3), .int .i64 (ofL L 4), .int .i64 (ofL L 5)] 58)).heap.size := by simp; omega
      have HST : Hid (cwc m ((zs.take k).map f) ++ c7 m (ofL (f L)) = cwc m ((zs.take (k + 1)).map f)) := by
        show _ = _
        have hg := List.getElem?_eq_some_iff.1 hL
        rw [List.take_succ_eq_append_getElem hg.1, hg.2, List.map_append, cwc_append, List.map_singleton, cwc_one_]
      clear hown hC hL
      generalize f L = fl at *
      go_wp2_with fail
      refine hcall.mono ?_
      rintro e w2 ⟨rfl, hb2⟩
      have hown2 := own_below hown1 hb2
      have hC3 := hC2.same (hb2.block G hG2)
      have hG3 : G < w2.heap.size := by have := hb2.size; omega
      have hs3 : w1.heap.size ≤ w2.heap.size := by have := hb2.size; omega
      have hB2 := hB1.trans (hb2.mono hB1.size)
      have p1 : k + 1 ≤ maxLen := by unfold maxLen; omega
      have p2 : (k + 1) * 56 ≤ 140737488355328 := by omega
      have p3 : w1.heap.size ≤ (w2.alloc (.cells #[.int .i64 ((m : Int)), .int .i64 (ofL fl 0), .int .i64 (ofL fl 1), .int .i64 (ofL fl 2), .int .i64 (ofL fl 3), .int .i64 (ofL fl 4), .int .i64 (ofL fl 5)] 58)).heap.size := by simp; omega
      have hrow2 := hown2.alloc (.cells #[.int .i64 ((m : Int)), .int .i64 (ofL fl 0), .int .i64 (ofL fl 1), .int .i64 (ofL fl 2), .int .i64 (ofL fl 3), .int .i64 (ofL fl 4), .int .i64 (ofL fl 5)] 58)
      have hbg := Below.heap_alloc w2 (.cells #[.int .i64 ((m : Int)), .int .i64 (ofL fl 0), .int .i64 (ofL fl 1), .int .i64 (ofL fl 2), .int .i64 (ofL fl 3), .int .i64 (ofL fl 4), .int .i64 (ofL fl 5)] 58) G hG3
      have hB3 := hB2.alloc hB2.size (.cells #[.int .i64 ((m : Int)), .int .i64 (ofL fl 0), .int .i64 (ofL fl 1), .int .i64 (ofL fl 2), .int .i64 (ofL fl 3), .int .i64 (ofL fl 4), .int .i64 (ofL fl 5)] 58)
      have hcl := cell_7_new w2 m (ofL fl)
      clear hown1 hC2 hG2 hs2 hb2 hB1 hcall hown2
      go_wp2_with (at_builtin; refine wpList_append_own _ rfl _ _ 65 rfl w1.heap.size 58 i1 (.agg #[.int .i64 ((0 : Int)), .int .i64 ((fun _ => (0 : Int)) 0), .int .i64 ((fun _ => (0 : Int)) 1), .int .i64 ((fun _ => (0 : Int)) 2), .int .i64 ((fun _ => (0 : Int)) 3), .int .i64 ((fun _ => (0 : Int)) 4), .int .i64 ((fun _ => (0 : Int)) 5)]) 7 56 Tryz.underlying65 hj hj0 hj1 hj2 rfl (by decide) _ _ _ rfl hrow2 ⟨w2.heap.size, 0, none⟩ 1 1 (c7 m (ofL fl)) rfl rfl hcl (c7_one _ _) p1 p2 p3 ?_; intro v' w4 hown' hgrow _)
      rw [HST.out] at hown'
      have hC4 : Chs w4 G m zs := hC3.same ((hgrow.block G (by simp; omega) (fun e => by have := (hrow2.lt G e.symm).1; have := HG1.out; omega)).trans hbg)
      have hgs := hgrow.size
      have hB4 := hB3.grown hgrow (by have := hB2.size; simp; omega) (fun g e => by have := (hrow2.lt g e).1; omega)
      clear hrow2 hgrow hB3 hB2 hC3 hbg
      go_roundw
      case rel => exact ⟨k + 1, by omega, by go_num, hown', hC4, by simp at hgs; omega, hB4, by simp at hgs; omega⟩
      case measure => simp [intOf]; omega
    · obtain rfl : k = n := by omega
      have e : zs.take k = zs := List.take_of_length_le (by have := HN.out; omega)
      rw [e] at hown
      obtain ⟨C, c, rfl⟩ := own_slice hown
      have hbx := HBX.out.below hB (by have := HS0.out; omega)
      have r0 : wr.cell? ⟨w.heap.size, 0, none⟩ = some (.map none) := hbx.cell 0
      have r1 : wr.cell? ⟨w.heap.size, 1, none⟩ = some (.slice none 0 0) := hbx.cell 1
      have r2 : wr.cell? ⟨w.heap.size, 2, none⟩ = some (.map none) := hbx.cell 2
      have f0 := hbx.frozen 0
      have f1 := hbx.frozen 1
      have f2 := hbx.frozen 2
      have hlr := hbx.lt
      have hne : (Value.slice C k c).ownBlock ≠ some w.heap.size := own_blk_ne hown hbx (by decide)
      have hBf := HBW.out wr hB
      have hcls : (((wr.setCell ⟨w.heap.size, 0, none⟩ (.map (some b))).setCell ⟨w.heap.size, 1, none⟩ (.slice C k c)).setCell ⟨w.heap.size, 2, none⟩ (.map (some wr.heap.size))).ownsRow w1.heap.size 58 7 (.slice C k c) k (cwc m (zs.map f)) :=
        ownsRow_setCell_other (ownsRow_setCell_other (ownsRow_setCell_other hown (a := ⟨w.heap.size, 0, none⟩) hne _) (a := ⟨w.heap.size, 1, none⟩) hne _) (a := ⟨w.heap.size, 2, none⟩) hne _
      have hBF := ((hBf.setCell (p := ⟨w.heap.size, 0, none⟩) (Nat.le_refl _) (.map (some b))).setCell (p := ⟨w.heap.size, 1, none⟩) (Nat.le_refl _) (.slice C k c)).setCell (p := ⟨w.heap.size, 2, none⟩) (Nat.le_refl _) (.map (some wr.heap.size))
      have hm0 := World.ownsMap_made (((wr.setCell ⟨w.heap.size, 0, none⟩ (.map (some b))).setCell ⟨w.heap.size, 1, none⟩ (.slice C k c)).setCell ⟨w.heap.size, 2, none⟩ (.map (some wr.heap.size))) Tryz.prog 58 (plainElem (H := Unit) Tryz.prog 3)
      have hszS : (((wr.setCell ⟨w.heap.size, 0, none⟩ (.map (some b))).setCell ⟨w.heap.size, 1, none⟩ (.slice C k c)).setCell ⟨w.heap.size, 2, none⟩ (.map (some wr.heap.size))).heap.size = wr.heap.size := by simp [World.setCell]
      rw [hszS] at hm0
      have HK : Hid (∃ nn D, ((((wr.setCell ⟨w.heap.size, 0, none⟩ (.map (some b))).setCell ⟨w.heap.size, 1, none⟩ (.slice C k c)).setCell ⟨w.heap.size, 2, none⟩ (.map (some wr.heap.size))).alloc (.map #[] 0)).ownsMap Tryz.prog 58 (plainElem (H := Unit) Tryz.prog 3) wr.heap.size nn D) := ⟨_, _, hm0⟩
      have HCL := Lib.hid (hcls.alloc (.map #[] 0))
      have HBF := Lib.hid (hBF.alloc (by rw [hszS]; omega) (.map #[] 0))
      clear hown hm0 hcls hBf hbx hne hBF hszS
      go_wp2
      exact bodyPost_ret (v := .agg #[.map (some b), .slice C k c, .map (some wr.heap.size)]) (by simp [results, Tryz.results101, go_sem, r0, r1, r2, hlr]) rfl ⟨_, _, _, _, rfl, by omega, HK.out, HCL.out, HBF.out⟩
set_option maxHeartbeats 400000 in
theorem grpF_any (m B ld : Nat) (L : List Int) (w : World) (hL : isC L = true ∧ L.length = m) (hld : ld < 64) (hbx : Blk w B 3 #[.int .i64 (ld : Int)]) :
    Calls Tryz.prog 102 #[.agg #[.int .i64 ((m : Int)), .int .i64 (ofL L 0), .int .i64 (ofL L 1), .int .i64 (ofL L 2), .int .i64 (ofL L 3), .int .i64 (ofL L 4), .int .i64 (ofL L 5)], .pointer (some ⟨B, 0, none⟩)] w fun e w' => e = .returned (.agg #[.int .i64 ((m : Int)), .int .i64 (ofL (ctF ld L) 0), .int .i64 (ofL (ctF ld L) 1), .int .i64 (ofL (ctF ld L) 2), .int .i64 (ofL (ctF ld L) 3), .int .i64 (ofL (ctF ld L) 4), .int .i64 (ofL (ctF ld L) 5)]) ∧ Below w.heap.size w w' := by
  obtain ⟨hc, rfl⟩ := hL
  have hn := (isC_len hc).2
  have hOk := isC_Ok hc
  have hB0 : Below w.heap.size w ((w.alloc (.cells #[.int .i64 ((L.length : Int)), .int .i64 (ofL L 0), .int .i64 (ofL L 1), .int .i64 (ofL L 2), .int .i64 (ofL L 3), .int .i64 (ofL L 4), .int .i64 (ofL L 5)] 58)).alloc (.cells #[.int .i64 ((0 : Int)), .int .i64 ((fun _ => (0 : Int)) 0), .int .i64 ((fun _ => (0 : Int)) 1), .int .i64 ((fun _ => (0 : Int)) 2), .int .i64 ((fun _ => (0 : Int)) 3), .int .i64 ((fun _ => (0 : Int)) 4), .int .i64 ((fun _ => (0 : Int)) 5)] 58)) := ((Below.refl _ w).alloc (Nat.le_refl _) _).alloc (by simp) _
  have d0 := (hbx.below hB0 hbx.lt).cell 0
  have hbc := (Blk.new w 58 #[.int .i64 ((L.length : Int)), .int .i64 (ofL L 0), .int .i64 (ofL L 1), .int .i64 (ofL L 2), .int .i64 (ofL L 3), .int .i64 (ofL L 4), .int .i64 (ofL L 5)]).alloc (.cells #[.int .i64 ((0 : Int)), .int .i64 ((fun _ => (0 : Int)) 0), .int .i64 ((fun _ => (0 : Int)) 1), .int .i64 ((fun _ => (0 : Int)) 2), .int .i64 ((fun _ => (0 : Int)) 3), .int .i64 ((fun _ => (0 : Int)) 4), .int .i64 ((fun _ => (0 : Int)) 5)] 58)
  have b0 := hbc.cell 0
  have b1 := hbc.cell 1
  have b2 := hbc.cell 2
  have b3 := hbc.cell 3
  have b4 := hbc.cell 4
  have b5 := hbc.cell 5
  have b6 := hbc.cell 6
  have HAT := Lib.hid (fun (T' : Nat → Int) (h : ∀ j, j < 6 → T' j = cutL L.length ld (mv (ofL L) L.length) j) => cut_at hc (T := ofL L) (T' := T') (fun _ _ => rfl) (ld := ld) h)
  clear hbx hc hbc
  go_enter Tryz.func102, Tryz.ntmps102
  go_wp2_with fail
  refine (cut_any L.length hn (ofL L) hOk ld hld _).mono ?_
  rintro e w1 ⟨T', rfl, HT', hb⟩
  have hk := Blk.new (w.alloc (.cells #[.int .i64 ((L.length : Int)), .int .i64 (ofL L 0), .int .i64 (ofL L 1), .int .i64 (ofL L 2), .int .i64 (ofL L 3), .int .i64 (ofL L 4), .int .i64 (ofL L 5)] 58)) 58 #[.int .i64 ((0 : Int)), .int .i64 ((fun _ => (0 : Int)) 0), .int .i64 ((fun _ => (0 : Int)) 1), .int .i64 ((fun _ => (0 : Int)) 2), .int .i64 ((fun _ => (0 : Int)) 3), .int .i64 ((fun _ => (0 : Int)) 4), .int .i64 ((fun _ => (0 : Int)) 5)]
  rw [World.size_alloc] at hk
  replace hk := hk.below hb hk.lt
  have he : ∀ j, j < 6 → T' j = ofL (ctF ld L) j := fun j hj => by
    rw [HAT.out T' HT'.out j hj]
    by_cases hl : j < L.length
    · rw [if_pos hl, ctF_get _ _ hl]
    · rw [if_neg hl, ctF_out _ _ hl]
  rw [he 0 (by omega), he 1 (by omega), he 2 (by omega), he 3 (by omega), he 4 (by omega), he 5 (by omega)]
  clear he HT' HAT
  obtain ⟨T, hT⟩ : ∃ T, ofL (ctF ld L) = T := ⟨_, rfl⟩
  have HT := Lib.hid hT
  rw [hT]
  clear hT
  have c0 := hk.cell 0
  have c1 := hk.cell 1
  have c2 := hk.cell 2
  have c3 := hk.cell 3
  have c4 := hk.cell 4
  have c5 := hk.cell 5
  have c6 := hk.cell 6
  have f0 := hk.frozen 0
  have f1 := hk.frozen 1
  have f2 := hk.frozen 2
  have f3 := hk.frozen 3
  have f4 := hk.frozen 4
  have f5 := hk.frozen 5
  have f6 := hk.frozen 6
  have hlt := hk.lt
  have hB := hB0.trans (hb.mono hB0.size)
  have HB := Lib.hid (bel_put7 hB (Nat.le_succ w.heap.size) (.int .i64 (L.length : Int)) (.int .i64 (T 0)) (.int .i64 (T 1)) (.int .i64 (T 2)) (.int .i64 (T 3)) (.int .i64 (T 4)) (.int .i64 (T 5)))
  clear hk hb hB hB0 b0 b1 b2 b3 b4 b5 b6 d0
  go_wp2
  exact bodyPost_ret (v := .agg #[.int .i64 ((L.length : Int)), .int .i64 (T 0), .int .i64 (T 1), .int .i64 (T 2), .int .i64 (T 3), .int .i64 (T 4), .int .i64 (T 5)]) (by simp [results, Tryz.results102, go_sem, hlt, c0, c1, c2, c3, c4, c5, c6]) rfl ⟨by rw [HT.out], HB.out⟩
set_option maxHeartbeats 1000000 in
theorem cgOfC_none (gf : Nat) (ca cb : Array Value) (w : World) :
    Calls Tryz.prog 101 #[.map none, .func (.func gf) ca cb] w fun e w' => ∃ q, e = .returned (.agg #[.map none, .slice none 0 0, .map (some q)]) ∧ w.heap.size ≤ q ∧ (∃ nn D, w'.ownsMap Tryz.prog 58 (plainElem (H := Unit) Tryz.prog 3) q nn D) ∧ Below w.heap.size w w' := by
  have hB0 := (Below.refl _ w).alloc (Nat.le_refl _) (.cells #[.map none, .slice none 0 0, .map none] 67)
  have HBX := Lib.hid (Blk.new w 67 #[.map none, .slice none 0 0, .map none])
  have hmm := @ run_makeMap Tryz.prog
  go_enter Tryz.func101, Tryz.ntmps101
  go_wp2_with fail
  refine (charts_none _).mono ?_
  rintro e wr ⟨G, rfl, hb1⟩
  have hbx := HBX.out.below hb1 HBX.out.lt
  have r0 := hbx.cell 0
  have r1 := hbx.cell 1
  have r2 := hbx.cell 2
  have f0 := hbx.frozen 0
  have f1 := hbx.frozen 1
  have f2 := hbx.frozen 2
  have hlr := hbx.lt
  have hBf := hB0.trans (hb1.mono hB0.size)
  have hBF := ((hBf.setCell (p := ⟨w.heap.size, 0, none⟩) (Nat.le_refl _) (.map none)).setCell (p := ⟨w.heap.size, 1, none⟩) (Nat.le_refl _) (.slice none 0 0)).setCell (p := ⟨w.heap.size, 2, none⟩) (Nat.le_refl _) (.map (some wr.heap.size))
  have hm0 := World.ownsMap_made (((wr.setCell ⟨w.heap.size, 0, none⟩ (.map none)).setCell ⟨w.heap.size, 1, none⟩ (.slice none 0 0)).setCell ⟨w.heap.size, 2, none⟩ (.map (some wr.heap.size))) Tryz.prog 58 (plainElem (H := Unit) Tryz.prog 3)
  have hszS : (((wr.setCell ⟨w.heap.size, 0, none⟩ (.map none)).setCell ⟨w.heap.size, 1, none⟩ (.slice none 0 0)).setCell ⟨w.heap.size, 2, none⟩ (.map (some wr.heap.size))).heap.size = wr.heap.size := by simp [World.setCell]
  rw [hszS] at hm0
  have HK : Hid (∃ nn D, ((((wr.setCell ⟨w.heap.size, 0, none⟩ (.map none)).setCell ⟨w.heap.size, 1, none⟩ (.slice none 0 0)).setCell ⟨w.heap.size, 2, none⟩ (.map (some wr.heap.size))).alloc (.map #[] 0)).ownsMap Tryz.prog 58 (plainElem (H := Unit) Tryz.prog 3) wr.heap.size nn D) := ⟨_, _, hm0⟩
  have HBF := Lib.hid (hBF.alloc (by rw [hszS]; omega) (.map #[] 0))
  clear hm0 hBF hszS hBf hbx hB0 HBX hb1
  go_wp2
  refine wp_loop_rounds 1 ?_
  rw [rounds_succ]
  go_wp2
  exact bodyPost_ret (v := .agg #[.map none, .slice none 0 0, .map (some wr.heap.size)]) (by simp [results, Tryz.results101, go_sem, r0, r1, r2, hlr]) rfl ⟨_, rfl, by omega, HK.out, HBF.out⟩
set_option maxHeartbeats 1000000 in
theorem grpCg_any (b m n : Nat) (zs : List (List Int)) (hn : zs.length = n) (hn6 : n ≤ 1048576) (hz : ∀ L ∈ zs, isC L = true ∧ L.length = m) (hs : Srt zs) (w : World)
    (hown : w.ownsMap Tryz.prog 58 (plainElem (H := Unit) Tryz.prog 3) b n (mapP klL zs n)) :
    Calls Tryz.prog 54 #[.map (some b)] w fun e w' => ∃ C c q lo, e = .returned (.agg #[.map (some b), .slice C n c, .map (some q)]) ∧ w.heap.size ≤ q ∧ (∃ nn D, w'.ownsMap Tryz.prog 58 (plainElem (H := Unit) Tryz.prog 3) q nn D) ∧ w'.ownsRow lo 58 7 (.slice C n c) n (cwc m (zs.map (ctF (ldN zs)))) ∧ Below w.heap.size w w' := by
  have hB0 := (Below.refl _ w).alloc (Nat.le_refl _) (.cells #[.map none, .slice none 0 0, .map none] 67)
  have HBX := Lib.hid (Blk.new w 67 #[.map none, .slice none 0 0, .map none])
  have hown0 := hown.alloc (.cells #[.map none, .slice none 0 0, .map none] 67)
  have hao := arrowsOf_any b m n zs hn hn6 hz hs _ hown0
  have hbl := hown0.lt
  have HLO := Lib.hid (fun (W : World) (lo : Nat) (v : Value) (h) => leastObj_any m lo v zs (by omega) W h)
  obtain ⟨ld, hld⟩ : ∃ ld, ldN zs = ld := ⟨_, rfl⟩
  have hl64 : ld < 64 := by rw [← hld]; exact ldN_64 zs
  have HCF := Lib.hid (fun (W V : World) (B : Nat) (hbi : Blk W B 3 #[.int .i64 (ld : Int)]) (ho : W.ownsMap Tryz.prog 58 (plainElem (H := Unit) Tryz.prog 3) b n (mapP klL zs n)) => cgOfC_any b m n 102 #[] #[.pointer (some ⟨B, 0, none⟩)] zs hn hn6 hz hs (ctF ld) W (enters_of Tryz.func102 (by kernel_rfl) rfl) (fun L hL X hX => grpF_any m B ld L X (hz L hL) hl64 (hbi.below hX hbi.lt)) ho)
  rw [hld] at HLO ⊢
  have HOW := Lib.hid (fun (W : World) (hW : Below (w.alloc (.cells #[.map none, .slice none 0 0, .map none] 67)).heap.size (w.alloc (.cells #[.map none, .slice none 0 0, .map none] 67)) W) => ownsMap_same hown0 (hW.block b hown0.lt))
  clear hn hz hs hown hown0 hld
  go_enter Tryz.func54, Tryz.ntmps54
  go_wp2_with fail
  refine hao.mono ?_
  rintro e w1 ⟨v, rfl, hown1, hb1⟩
  have hlo := HLO.out w1 _ v hown1
  clear hao hown1
  go_wp2_with fail
  refine hlo.mono ?_
  rintro e w2 ⟨rfl, hb2⟩
  have hb12 := hb1.trans (hb2.mono hb1.size)
  have hb3 := hb12.alloc hb12.size (.cells #[.int .i64 (ld : Int)] 3)
  have hbi := Blk.new w2 3 #[.int .i64 (ld : Int)]
  have hcg := HCF.out _ w2 _ hbi (HOW.out _ hb3)
  have HB3 := Lib.hid hb3
  have hs2 : w.heap.size + 1 ≤ w2.heap.size := by have := hb12.size; simp at this; omega
  clear hlo hb1 hb2 hb12 hb3 hbi HCF HOW HLO
  go_wp2_with fail
  refine hcg.mono ?_
  rintro e w4 ⟨C, c, q, lo, rfl, hq, ⟨nn, D, hm⟩, hrow, hb4⟩
  have hb14 := HB3.out.trans (hb4.mono HB3.out.size)
  have hbx := HBX.out.below hb14 HBX.out.lt
  have r0 := hbx.cell 0
  have r1 := hbx.cell 1
  have r2 := hbx.cell 2
  have f0 := hbx.frozen 0
  have f1 := hbx.frozen 1
  have f2 := hbx.frozen 2
  have hlr := hbx.lt
  have hBf := hB0.trans (hb14.mono hB0.size)
  have hqn : q ≠ w.heap.size := by simp at hq; omega
  have hne : (Value.slice C n c).ownBlock ≠ some w.heap.size := own_blk_ne hrow hbx (by decide)
  have HBF := Lib.hid (((hBf.setCell (p := ⟨w.heap.size, 0, none⟩) (Nat.le_refl _) (.map (some b))).setCell (p := ⟨w.heap.size, 1, none⟩) (Nat.le_refl _) (.slice C n c)).setCell (p := ⟨w.heap.size, 2, none⟩) (Nat.le_refl _) (.map (some q)))
  have HRW := Lib.hid (ownsRow_setCell_other (ownsRow_setCell_other (ownsRow_setCell_other hrow (a := ⟨w.heap.size, 0, none⟩) hne (.map (some b))) (a := ⟨w.heap.size, 1, none⟩) hne (.slice C n c)) (a := ⟨w.heap.size, 2, none⟩) hne (.map (some q)))
  have HMM := Lib.hid (((hm.setCell (a := ⟨w.heap.size, 0, none⟩) hqn (.map (some b))).setCell (a := ⟨w.heap.size, 1, none⟩) hqn (.slice C n c)).setCell (a := ⟨w.heap.size, 2, none⟩) hqn (.map (some q)))
  have hqw : w.heap.size ≤ q := by simp at hq; omega
  clear hcg hb4 hb14 hbx hBf hne hrow hm hB0 hq HB3 HBX
  go_wp2
  exact bodyPost_ret (v := .agg #[.map (some b), .slice C n c, .map (some q)]) (by simp [results, Tryz.results54, go_sem, r0, r1, r2, hlr]) rfl ⟨_, _, _, _, rfl, hqw, ⟨_, _, HMM.out⟩, HRW.out, HBF.out⟩
end

/-! impl.CongruenceGroup. -/
section
open Go.RowKit Go.Maps

set_option maxHeartbeats 1000000 in
theorem grpCg_none (w : World) :
    Calls Tryz.prog 54 #[.map none] w fun e w' => ∃ q, e = .returned (.agg #[.map none, .slice none 0 0, .map (some q)]) ∧ w.heap.size ≤ q ∧ (∃ nn D, w'.ownsMap Tryz.prog 58 (plainElem (H := Unit) Tryz.prog 3) q nn D) ∧ Below w.heap.size w w' := by
  have hB0 := (Below.refl _ w).alloc (Nat.le_refl _) (.cells #[.map none, .slice none 0 0, .map none] 67)
  have HBX := Lib.hid (Blk.new w 67 #[.map none, .slice none 0 0, .map none])
  go_enter Tryz.func54, Tryz.ntmps54
  go_wp2_with fail
  refine (arrowsOf_none _).mono ?_
  rintro e w1 ⟨rfl, hb1⟩
  have hlo := leastObj_any 0 0 (.slice none 0 0) [] (by simp) w1 (World.ownsRow_nil _ _ _ _)
  rw [show ((ldN [] : Nat) : Int) = 63 from rfl] at hlo
  go_wp2_with fail
  refine hlo.mono ?_
  rintro e w2 ⟨rfl, hb2⟩
  have hb12 := hb1.trans (hb2.mono hb1.size)
  have hb3 := hb12.alloc hb12.size (.cells #[.int .i64 63] 3)
  have HB3 := Lib.hid hb3
  have hs2 : w.heap.size + 1 ≤ w2.heap.size := by have := hb12.size; simp at this; omega
  clear hlo hb1 hb2 hb12 hb3
  go_wp2_with fail
  refine (cgOfC_none _ _ _ _).mono ?_
  rintro e w4 ⟨q, rfl, hq, ⟨nn, D, hm⟩, hb4⟩
  have hb14 := HB3.out.trans (hb4.mono HB3.out.size)
  have hbx := HBX.out.below hb14 HBX.out.lt
  have r0 := hbx.cell 0
  have r1 := hbx.cell 1
  have r2 := hbx.cell 2
  have f0 := hbx.frozen 0
  have f1 := hbx.frozen 1
  have f2 := hbx.frozen 2
  have hlr := hbx.lt
  have hBf := hB0.trans (hb14.mono hB0.size)
  have hqn : q ≠ w.heap.size := by simp at hq; omega
  have HBF := Lib.hid (((hBf.setCell (p := ⟨w.heap.size, 0, none⟩) (Nat.le_refl _) (.map none)).setCell (p := ⟨w.heap.size, 1, none⟩) (Nat.le_refl _) (.slice none 0 0)).setCell (p := ⟨w.heap.size, 2, none⟩) (Nat.le_refl _) (.map (some q)))
  have HMM := Lib.hid (((hm.setCell (a := ⟨w.heap.size, 0, none⟩) hqn (.map none)).setCell (a := ⟨w.heap.size, 1, none⟩) hqn (.slice none 0 0)).setCell (a := ⟨w.heap.size, 2, none⟩) hqn (.map (some q)))
  have hqw : w.heap.size ≤ q := by simp at hq; omega
  clear hb4 hb14 hbx hBf hm hB0 hq HB3 HBX
  go_wp2
  exact bodyPost_ret (v := .agg #[.map none, .slice none 0 0, .map (some q)]) (by simp [results, Tryz.results54, go_sem, r0, r1, r2, hlr]) rfl ⟨_, rfl, hqw, ⟨_, _, HMM.out⟩, HBF.out⟩
theorem grC_nu (zs : List (List Int)) : nuL (ent (zs.map (ctF (ldN zs)))) zs.length = nuL (grC zs) zs.length := by
  have h : ∀ i, i < zs.length → ent (zs.map (ctF (ldN zs))) i = grC zs i := fun i hi => by
    unfold grC ent
    rw [List.getElem?_map, List.getElem?_eq_getElem hi]; rfl
  exact nuL_same (fun i j hi hj => by rw [h i hi, h j hj])
set_option maxHeartbeats 1000000 in
theorem implCgGroup_any (A : Option Addr) (n c : Nat) (zs : List (List Int)) (w : World) (h : RSS w A n zs) (hg : EtAt w) :
    Calls Tryz.prog 17 #[.slice A n c] w fun e w' => ∃ v, e = .returned (.tuple #[v, .bool (sgS zs)]) ∧ w'.ownsRow w.heap.size 3 1 v (grpL zs).length (ivs (grpL zs)) ∧ Below w.heap.size w w' := by
  have hsg := told_any A n c zs w h hg
  clear h hg
  go_enter Tryz.func17, Tryz.ntmps17
  go_wp2_with fail
  refine hsg.mono ?_
  rintro e w1 ⟨v, rfl, hy, hno, hb⟩
  have hs1 := hb.size
  cases hS : sgS zs
  · obtain rfl := hno hS
    have HSX := Lib.hid hS
    have HI : Hid (grpL zs = []) := by show _ = _; unfold grpL; rw [hS]; rfl
    clear hy hno hsg hS
    go_wp2_with fail
    refine (grpCg_none w1).mono ?_
    rintro e w2 ⟨q, rfl, hq, ⟨nn, D, hm⟩, hb2⟩
    have hB2 := hb.trans (hb2.mono hb.size)
    have hnb := numbersC_any none q nn 0 0 0 0 none [] D w2 rfl (by omega) (fun L hL => by cases hL) (World.ownsRow_nil _ _ _ _) hm
    clear hm hb2
    go_wp2_with fail
    refine hnb.mono ?_
    rintro e w3 ⟨v, rfl, hr, hg3⟩
    have hr3 := own_base hr hB2.size
    have hB3 := hB2.grown hg3 hB2.size (fun k e => by cases e; omega)
    clear hnb hr hg3
    go_wp2
    go_ret2
    exact ⟨_, by rw [HSX.out]; rfl, by rw [HI.out]; exact hr3, hB3⟩
  · obtain ⟨b, rfl, hbl, hown⟩ := hy hS
    have HSX := Lib.hid hS
    have S := sgS_iff.1 hS
    have hn6 : zs.length ≤ 1048576 := by have := S.most; omega
    have HI : Hid (grpL zs = nuL (ent (zs.map (ctF (ldN zs)))) zs.length) := by show _ = _; unfold grpL; rw [if_pos hS, grC_nu]
    have hgc := grpCg_any b (ent zs 0).length zs.length zs rfl hn6 S.ch S.srt w1 hown
    have HCH : Hid (∀ L ∈ zs.map (ctF (ldN zs)), isC L = true ∧ L.length = (ent zs 0).length) := fun L hL => by
      obtain ⟨M, hM, rfl⟩ := List.mem_map.1 hL
      exact ct_isC S hM
    have HLL : Hid ((zs.map (ctF (ldN zs))).length = zs.length) := List.length_map _
    clear hy hno hsg hS S hown
    generalize zs.map (ctF (ldN zs)) = cl at *
    generalize (ent zs 0).length = m at *
    go_wp2_with fail
    refine hgc.mono ?_
    rintro e w2 ⟨C, c2, q, lo, rfl, hq, ⟨nn, D, hm⟩, hrow, hb2⟩
    have hB2 := hb.trans (hb2.mono hb.size)
    have hnb := numbersC_any (some b) q nn c2 m zs.length lo C cl D w2 HLL.out hn6 HCH.out hrow hm
    clear hm hb2 hrow hgc
    go_wp2_with fail
    refine hnb.mono ?_
    rintro e w3 ⟨v, rfl, hr, hg3⟩
    have hr3 := own_base hr hB2.size
    have hB3 := hB2.grown hg3 hB2.size (fun k e => by cases e; omega)
    clear hnb hr hg3
    go_wp2
    go_ret2
    exact ⟨_, by rw [HSX.out]; rfl, by rw [HI.out, nuL_len]; exact hr3, hB3⟩
end

end Go.Proofs.YtkfiehndlgplgaaGreatDoor
