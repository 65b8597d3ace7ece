/-
  Ways of a chart: where a point goes when it is moved again and again; no program.
-/
import Derived.Test.YtckppfgooflooaaAlgB
namespace Go.Proofs.Ytckppfgooflooaa
set_option maxRecDepth 100000

/-- a list of more than n distinct points below n: there is none -/
theorem pigeon {f : Nat → Nat} {k n : Nat} (h : ∀ i, i < k → f i < n) (hi : ∀ i j, i < k → j < k → f i = f j → i = j) : k ≤ n := by
  have := cnt_inj (P := fun _ => true) (Q := fun _ => true) (f := f) (k := k) (m := n) (fun j hj _ => ⟨h j hj, rfl⟩) (fun i j a b _ _ e => hi i j a b e)
  have hc : ∀ m, cnt (fun _ => true) m = m := fun m => by
    induction m with
    | zero => rfl
    | succ m ih => rw [cnt_succ, ih]; rfl
  rwa [hc, hc] at this

/-- the point s after k moves; -1 from where it is not moved -/
def itF (F : Nat → Int) (s : Nat) : Nat → Int
  | 0 => s
  | k + 1 => if 0 ≤ itF F s k then F (itF F s k).toNat else -1
theorem itF_succ (F : Nat → Int) (s k : Nat) : itF F s (k + 1) = if 0 ≤ itF F s k then F (itF F s k).toNat else -1 := rfl
section
variable {n : Nat} {F : Nat → Int} {s : Nat}
theorem itF_en (h : En n F) (hs : s < n) : ∀ k, itF F s k = -1 ∨ (0 ≤ itF F s k ∧ itF F s k < n)
  | 0 => .inr ⟨by simp [itF], by simp [itF]; exact hs⟩
  | k + 1 => by
    rw [itF_succ]
    rcases itF_en h hs k with h1 | h1
    · rw [if_neg (by omega)]; exact .inl rfl
    · rw [if_pos h1.1]; exact h _ (by omega)
theorem itF_down (k d : Nat) (h : 0 ≤ itF F s (k + d)) : 0 ≤ itF F s k := by
  induction d with
  | zero => exact h
  | succ d ih =>
    apply ih
    rw [← Nat.add_assoc, itF_succ] at h
    by_cases hc : 0 ≤ itF F s (k + d)
    · exact hc
    · rw [if_neg hc] at h; omega
/-- two times the same point: it was at the start already -/
theorem itF_back (hF : CH n F) (hs : s < n) : ∀ i d, 0 ≤ itF F s (i + d) → itF F s i = itF F s (i + d) → itF F s d = s
  | 0, d, _, e => by rw [Nat.zero_add] at e; rw [← e]; rfl
  | i + 1, d, h0, e => by
    have hd : i + 1 + d = (i + d) + 1 := by omega
    rw [hd] at h0 e
    have a0 : 0 ≤ itF F s (i + d) := itF_down (i + d) 1 h0
    have b0 : 0 ≤ itF F s i := itF_down i d a0
    rw [itF_succ, itF_succ, if_pos a0, if_pos b0] at e
    rw [itF_succ, if_pos a0] at h0
    have ia := (itF_en hF.en hs (i + d)).resolve_left (by omega)
    have ib := (itF_en hF.en hs i).resolve_left (by omega)
    have := hF.inj (itF F s i).toNat (itF F s (i + d)).toNat (by omega) (by omega) (by omega) e
    exact itF_back hF hs i d a0 (by omega)
/-- not at the start again up to k: then k points below n are met -/
theorem itF_short (hF : CH n F) (hs : s < n) {k : Nat} (h0 : 0 ≤ itF F s k) (hne : ∀ i, 1 ≤ i → i ≤ k → itF F s i ≠ s) : k + 1 ≤ n := by
  refine pigeon (f := fun i => (itF F s i).toNat) (fun i hi => ?_) (fun i j hi hj e => ?_)
  · have := itF_down i (k - i) (by rw [show i + (k - i) = k by omega]; exact h0)
    have := (itF_en hF.en hs i).resolve_left (by omega)
    show (itF F s i).toNat < n
    omega
  · have ai := itF_down i (k - i) (by rw [show i + (k - i) = k by omega]; exact h0)
    have aj := itF_down j (k - j) (by rw [show j + (k - j) = k by omega]; exact h0)
    have e' : itF F s i = itF F s j := by have : (itF F s i).toNat = (itF F s j).toNat := e; omega
    rcases Nat.lt_trichotomy i j with hlt | rfl | hlt
    · have := itF_back hF hs i (j - i) (by rw [show i + (j - i) = j by omega]; exact aj) (by rw [show i + (j - i) = j by omega]; exact e')
      exact absurd this (hne (j - i) (by omega) (by omega))
    · rfl
    · have := itF_back hF hs j (i - j) (by rw [show j + (i - j) = i by omega]; exact ai) (by rw [show j + (i - j) = i by omega]; exact e'.symm)
      exact absurd this (hne (i - j) (by omega) (by omega))

/-- how often s is moved before its way ends: counted on from k, by at most so many steps -/
def wEnd (F : Nat → Int) (s : Nat) : Nat → Nat → Nat
  | 0, k => k
  | d + 1, k => if 0 ≤ itF F s (k + 1) ∧ itF F s (k + 1) ≠ s then wEnd F s d (k + 1) else k
/-- the way of s -/
def wayL (F : Nat → Int) (n s : Nat) : List Int := LT (wEnd F s n 0 + 1) (itF F s)
theorem wEnd_go {k : Nat} (hk : k < n) (h : 0 ≤ itF F s (k + 1) ∧ itF F s (k + 1) ≠ s) : wEnd F s (n - k) k = wEnd F s (n - (k + 1)) (k + 1) := by
  rw [show n - k = (n - (k + 1)) + 1 by omega]
  show (if _ then _ else _) = _
  rw [if_pos h]
theorem wEnd_stop {k d : Nat} (h : ¬ (0 ≤ itF F s (k + 1) ∧ itF F s (k + 1) ≠ s)) : wEnd F s d k = k := by
  cases d with
  | zero => rfl
  | succ d => show (if _ then _ else _) = _; rw [if_neg h]

/-! ### powers -/
/-- the product of k times the same chart -/
def pwF (n : Nat) (F : Nat → Int) : Nat → Nat → Int
  | 0 => fun j => if j < n then (j : Int) else -1
  | k + 1 => cmp n (pwF n F k) F
theorem CH_one (h1 : 1 ≤ n) (h6 : n ≤ 6) : CH n (pwF n F 0) := by
  refine ⟨h1, h6, fun j hj => ?_, fun i j hi hj _ he => ?_⟩
  · right; unfold pwF; rw [if_pos hj]; omega
  · unfold pwF at he; rw [if_pos hi, if_pos hj] at he; omega
theorem CH_pw (h : CH n F) : ∀ k, CH n (pwF n F k)
  | 0 => CH_one h.one h.six
  | k + 1 => (CH_pw h k).cmp h
theorem pw_it (h : CH n F) (hs : s < n) : ∀ k, pwF n F k s = itF F s k
  | 0 => by unfold pwF; rw [if_pos hs]; rfl
  | k + 1 => by
    show cmp n (pwF n F k) F s = _
    unfold cmp
    rw [pw_it h hs k, itF_succ]
    rcases itF_en h.en hs k with h1 | h1
    · rw [if_neg (by omega), if_neg (by omega)]
    · rw [if_pos h1, if_pos h1.1]
/-- what is moved more often is moved less often too -/
theorem pw_down (h : CH n F) (hs : s < n) {k d : Nat} (h0 : pwF n F (k + d) s ≠ -1) : pwF n F k s ≠ -1 := by
  rw [pw_it h hs] at h0 ⊢
  have := (itF_en h.en hs (k + d)).resolve_left h0
  have := itF_down k d this.1
  omega
/-- a point that is moved n times is moved for ever, and comes back within n steps -/
theorem it_cycle (h : CH n F) (hs : s < n) (h0 : 0 ≤ itF F s n) : ∃ p, 1 ≤ p ∧ p ≤ n ∧ itF F s p = s := by
  apply Classical.byContradiction
  intro hno
  have := itF_short h hs h0 (fun i h1 h2 e => hno ⟨i, h1, h2, e⟩)
  omega
theorem it_add (a : Nat) : ∀ b, 0 ≤ itF F s a → itF F s (a + b) = itF F (itF F s a).toNat b
  | 0, h => by show itF F s a = ((itF F s a).toNat : Int); omega
  | b + 1, h => by
    rw [← Nat.add_assoc, itF_succ, itF_succ, it_add a b h]
theorem it_mul {p : Nat} (hp : itF F s p = s) : ∀ m, itF F s (p * m) = s
  | 0 => rfl
  | m + 1 => by
    rw [Nat.mul_succ, it_add (p * m) p (by rw [it_mul hp m]; omega), it_mul hp m, Int.toNat_natCast]; exact hp
theorem it_60 (h : CH n F) (hs : s < n) (h0 : 0 ≤ itF F s n) : itF F s 60 = s := by
  obtain ⟨p, h1, h2, e⟩ := it_cycle h hs h0
  have h6 := h.six
  have : ∃ m, 60 = p * m := by
    have hp : p = 1 ∨ p = 2 ∨ p = 3 ∨ p = 4 ∨ p = 5 ∨ p = 6 := by omega
    rcases hp with rfl | rfl | rfl | rfl | rfl | rfl
    · exact ⟨60, rfl⟩
    · exact ⟨30, rfl⟩
    · exact ⟨20, rfl⟩
    · exact ⟨15, rfl⟩
    · exact ⟨12, rfl⟩
    · exact ⟨10, rfl⟩
  obtain ⟨m, hm⟩ := this
  rw [hm]; exact it_mul e m
/-- moved k times and once more: for ever, if no point is lost by the one move more -/
theorem stable (h : CH n F) {k : Nat} (hst : ∀ j, j < n → pwF n F k j ≠ -1 → pwF n F (k + 1) j ≠ -1) : ∀ d j, j < n → pwF n F k j ≠ -1 → pwF n F (k + d) j ≠ -1
  | 0, j, _, e => e
  | d + 1, j, hj, e => by
    have h1 := stable h hst d j hj e
    have h2 := hst j hj (pw_down h hj h1)
    rw [pw_it h hj] at e h1 h2 ⊢
    -- the point F j is moved k times
    have hj1 : 0 ≤ itF F j 1 := itF_down 1 k (by rw [Nat.add_comm]; have := (itF_en h.en hj (k + 1)).resolve_left h2; exact this.1)
    have hn1 := (itF_en h.en hj 1).resolve_left (by omega)
    have hs1 : (itF F j 1).toNat < n := by omega
    have e1 : pwF n F k (itF F j 1).toNat ≠ -1 := by
      rw [pw_it h hs1, ← it_add 1 k hj1, Nat.add_comm]; exact h2
    have := stable h hst d _ hs1 e1
    rw [pw_it h hs1, ← it_add 1 (k + d) hj1] at this
    rw [show k + (d + 1) = 1 + (k + d) by omega]; exact this
theorem pw_period (h : CH n F) {k : Nat} (hst : ∀ j, j < n → pwF n F k j ≠ -1 → pwF n F (k + 1) j ≠ -1) : ∀ j, j < n → pwF n F (k + 60) j = pwF n F k j := fun j hj => by
  by_cases e : pwF n F k j = -1
  · rw [e]
    rcases (CH_pw h (k + 60)).en j hj with h1 | h1
    · exact h1
    · exact absurd e (pw_down h hj (d := 60) (by omega))
  · have hk := ((CH_pw h k).en j hj).resolve_left e
    have hn' := stable h hst n j hj e
    rw [pw_it h hj] at e hk hn' ⊢
    rw [pw_it h hj]
    have hs : (itF F j k).toNat < n := by omega
    have h0 : 0 ≤ itF F (itF F j k).toNat n := by
      rw [← it_add k n hk.1]
      exact ((itF_en h.en hj (k + n)).resolve_left hn').1
    rw [it_add k 60 hk.1, it_60 h hs h0]
    omega
end
end Go.Proofs.Ytckppfgooflooaa
