/-
  Way WayB WayC WayD WayE WayF WayG.
-/
import Derived.Test.YtkfiehndlgplgaaGreatDoorMC
namespace Go.Proofs.YtkfiehndlgplgaaGreatDoor
set_option maxRecDepth 100000
set_option linter.unusedVariables false
set_option linter.unusedSimpArgs false
set_option linter.unusedSectionVars false

/-! Ways of a chart: where a point goes when it is moved again and again; no program. -/
section
/-- a list of more than n distinct points below n: there is none -/
theorem pigeon {f : Nat → Nat} {k n : Nat} (h : ∀ i, i < k → f i < n) (hi : ∀ i j, i < k → j < k → f i = f j → i = j) : k ≤ n := by
  have := cnt_inj (P := fun _ => true) (Q := fun _ => true) (f := f) (k := k) (m := n) (fun j hj _ => ⟨h j hj, rfl⟩) (fun i j a b _ _ e => hi i j a b e)
  have hc : ∀ m, cnt (fun _ => true) m = m := fun m => by
    induction m with
    | zero => rfl
    | succ m ih => rw [cnt_succ, ih]; rfl
  rwa [hc, hc] at this

/-- the point s after k moves; -1 from where it is not moved -/
def itF (F : Nat → Int) (s : Nat) : Nat → Int
  | 0 => s
  | k + 1 => if 0 ≤ itF F s k then F (itF F s k).toNat else -1
theorem itF_succ (F : Nat → Int) (s k : Nat) : itF F s (k + 1) = if 0 ≤ itF F s k then F (itF F s k).toNat else -1 := rfl
section
variable {n : Nat} {F : Nat → Int} {s : Nat}
theorem itF_en (h : En n F) (hs : s < n) : ∀ k, itF F s k = -1 ∨ (0 ≤ itF F s k ∧ itF F s k < n)
  | 0 => .inr ⟨by simp [itF], by simp [itF]; exact hs⟩
  | k + 1 => by
    rw [itF_succ]
    rcases itF_en h hs k with h1 | h1
    · rw [if_neg (by omega)]; exact .inl rfl
    · rw [if_pos h1.1]; exact h _ (by omega)
theorem itF_down (k d : Nat) (h : 0 ≤ itF F s (k + d)) : 0 ≤ itF F s k := by
  induction d with
  | zero => exact h
  | succ d ih =>
    apply ih
    rw [← Nat.add_assoc, itF_succ] at h
    by_cases hc : 0 ≤ itF F s (k + d)
    · exact hc
    · rw [if_neg hc] at h; omega
/-- two times the same point: it was at the start already -/
theorem itF_back (hF : CH n F) (hs : s < n) : ∀ i d, 0 ≤ itF F s (i + d) → itF F s i = itF F s (i + d) → itF F s d = s
  | 0, d, _, e => by rw [Nat.zero_add] at e; rw [← e]; rfl
  | i + 1, d, h0, e => by
    have hd : i + 1 + d = (i + d) + 1 := by omega
    rw [hd] at h0 e
    have a0 : 0 ≤ itF F s (i + d) := itF_down (i + d) 1 h0
    have b0 : 0 ≤ itF F s i := itF_down i d a0
    rw [itF_succ, itF_succ, if_pos a0, if_pos b0] at e
    rw [itF_succ, if_pos a0] at h0
    have ia := (itF_en hF.en hs (i + d)).resolve_left (by omega)
    have ib := (itF_en hF.en hs i).resolve_left (by omega)
    have := hF.inj (itF F s i).toNat (itF F s (i + d)).toNat (by omega) (by omega) (by omega) e
    exact itF_back hF hs i d a0 (by omega)
/-- not at the start again up to k: then k points below n are met -/
theorem itF_short (hF : CH n F) (hs : s < n) {k : Nat} (h0 : 0 ≤ itF F s k) (hne : ∀ i, 1 ≤ i → i ≤ k → itF F s i ≠ s) : k + 1 ≤ n := by
  refine pigeon (f := fun i => (itF F s i).toNat) (fun i hi => ?_) (fun i j hi hj e => ?_)
  · have := itF_down i (k - i) (by rw [show i + (k - i) = k by omega]; exact h0)
    have := (itF_en hF.en hs i).resolve_left (by omega)
    show (itF F s i).toNat < n
    omega
  · have ai := itF_down i (k - i) (by rw [show i + (k - i) = k by omega]; exact h0)
    have aj := itF_down j (k - j) (by rw [show j + (k - j) = k by omega]; exact h0)
    have e' : itF F s i = itF F s j := by have : (itF F s i).toNat = (itF F s j).toNat := e; omega
    rcases Nat.lt_trichotomy i j with hlt | rfl | hlt
    · have := itF_back hF hs i (j - i) (by rw [show i + (j - i) = j by omega]; exact aj) (by rw [show i + (j - i) = j by omega]; exact e')
      exact absurd this (hne (j - i) (by omega) (by omega))
    · rfl
    · have := itF_back hF hs j (i - j) (by rw [show j + (i - j) = i by omega]; exact ai) (by rw [show j + (i - j) = i by omega]; exact e'.symm)
      exact absurd this (hne (i - j) (by omega) (by omega))

/-- how often s is moved before its way ends: counted on from k, by at most so many steps -/
def wEnd (F : Nat → Int) (s : Nat) : Nat → Nat → Nat
  | 0, k => k
  | d + 1, k => if 0 ≤ itF F s (k + 1) ∧ itF F s (k + 1) ≠ s then wEnd F s d (k + 1) else k
/-- the way of s -/
def wayL (F : Nat → Int) (n s : Nat) : List Int := LT (wEnd F s n 0 + 1) (itF F s)
theorem wEnd_go {k : Nat} (hk : k < n) (h : 0 ≤ itF F s (k + 1) ∧ itF F s (k + 1) ≠ s) : wEnd F s (n - k) k = wEnd F s (n - (k + 1)) (k + 1) := by
  rw [show n - k = (n - (k + 1)) + 1 by omega]
  show (if _ then _ else _) = _
  rw [if_pos h]
theorem wEnd_stop {k d : Nat} (h : ¬ (0 ≤ itF F s (k + 1) ∧ itF F s (k + 1) ≠ s)) : wEnd F s d k = k := by
  cases d with
  | zero => rfl
  | succ d => show (if _ then _ else _) = _; rw [if_neg h]

/-! ### powers -/
/-- the product of k times the same chart -/
def pwF (n : Nat) (F : Nat → Int) : Nat → Nat → Int
  | 0 => fun j => if j < n then (j : Int) else -1
  | k + 1 => cmp n (pwF n F k) F
theorem CH_one (h1 : 1 ≤ n) (h6 : n ≤ 6) : CH n (pwF n F 0) := by
  refine ⟨h1, h6, fun j hj => ?_, fun i j hi hj _ he => ?_⟩
  · right; unfold pwF; rw [if_pos hj]; omega
  · unfold pwF at he; rw [if_pos hi, if_pos hj] at he; omega
theorem CH_pw (h : CH n F) : ∀ k, CH n (pwF n F k)
  | 0 => CH_one h.one h.six
  | k + 1 => (CH_pw h k).cmp h
theorem pw_it (h : CH n F) (hs : s < n) : ∀ k, pwF n F k s = itF F s k
  | 0 => by unfold pwF; rw [if_pos hs]; rfl
  | k + 1 => by
    show cmp n (pwF n F k) F s = _
    unfold cmp
    rw [pw_it h hs k, itF_succ]
    rcases itF_en h.en hs k with h1 | h1
    · rw [if_neg (by omega), if_neg (by omega)]
    · rw [if_pos h1, if_pos h1.1]
/-- what is moved more often is moved less often too -/
theorem pw_down (h : CH n F) (hs : s < n) {k d : Nat} (h0 : pwF n F (k + d) s ≠ -1) : pwF n F k s ≠ -1 := by
  rw [pw_it h hs] at h0 ⊢
  have := (itF_en h.en hs (k + d)).resolve_left h0
  have := itF_down k d this.1
  omega
/-- a point that is moved n times is moved for ever, and comes back within n steps -/
theorem it_cycle (h : CH n F) (hs : s < n) (h0 : 0 ≤ itF F s n) : ∃ p, 1 ≤ p ∧ p ≤ n ∧ itF F s p = s := by
  apply Classical.byContradiction
  intro hno
  have := itF_short h hs h0 (fun i h1 h2 e => hno ⟨i, h1, h2, e⟩)
  omega
theorem it_add (a : Nat) : ∀ b, 0 ≤ itF F s a → itF F s (a + b) = itF F (itF F s a).toNat b
  | 0, h => by show itF F s a = ((itF F s a).toNat : Int); omega
  | b + 1, h => by
    rw [← Nat.add_assoc, itF_succ, itF_succ, it_add a b h]
theorem it_mul {p : Nat} (hp : itF F s p = s) : ∀ m, itF F s (p * m) = s
  | 0 => rfl
  | m + 1 => by
    rw [Nat.mul_succ, it_add (p * m) p (by rw [it_mul hp m]; omega), it_mul hp m, Int.toNat_natCast]; exact hp
theorem it_60 (h : CH n F) (hs : s < n) (h0 : 0 ≤ itF F s n) : itF F s 60 = s := by
  obtain ⟨p, h1, h2, e⟩ := it_cycle h hs h0
  have h6 := h.six
  have : ∃ m, 60 = p * m := by
    have hp : p = 1 ∨ p = 2 ∨ p = 3 ∨ p = 4 ∨ p = 5 ∨ p = 6 := by omega
    rcases hp with rfl | rfl | rfl | rfl | rfl | rfl
    · exact ⟨60, rfl⟩
    · exact ⟨30, rfl⟩
    · exact ⟨20, rfl⟩
    · exact ⟨15, rfl⟩
    · exact ⟨12, rfl⟩
    · exact ⟨10, rfl⟩
  obtain ⟨m, hm⟩ := this
  rw [hm]; exact it_mul e m
/-- moved k times and once more: for ever, if no point is lost by the one move more -/
theorem stable (h : CH n F) {k : Nat} (hst : ∀ j, j < n → pwF n F k j ≠ -1 → pwF n F (k + 1) j ≠ -1) : ∀ d j, j < n → pwF n F k j ≠ -1 → pwF n F (k + d) j ≠ -1
  | 0, j, _, e => e
  | d + 1, j, hj, e => by
    have h1 := stable h hst d j hj e
    have h2 := hst j hj (pw_down h hj h1)
    rw [pw_it h hj] at e h1 h2 ⊢
    -- the point F j is moved k times
    have hj1 : 0 ≤ itF F j 1 := itF_down 1 k (by rw [Nat.add_comm]; have := (itF_en h.en hj (k + 1)).resolve_left h2; exact this.1)
    have hn1 := (itF_en h.en hj 1).resolve_left (by omega)
    have hs1 : (itF F j 1).toNat < n := by omega
    have e1 : pwF n F k (itF F j 1).toNat ≠ -1 := by
      rw [pw_it h hs1, ← it_add 1 k hj1, Nat.add_comm]; exact h2
    have := stable h hst d _ hs1 e1
    rw [pw_it h hs1, ← it_add 1 (k + d) hj1] at this
    rw [show k + (d + 1) = 1 + (k + d) by omega]; exact this
theorem pw_period (h : CH n F) {k : Nat} (hst : ∀ j, j < n → pwF n F k j ≠ -1 → pwF n F (k + 1) j ≠ -1) : ∀ j, j < n → pwF n F (k + 60) j = pwF n F k j := fun j hj => by
  by_cases e : pwF n F k j = -1
  · rw [e]
    rcases (CH_pw h (k + 60)).en j hj with h1 | h1
    · exact h1
    · exact absurd e (pw_down h hj (d := 60) (by omega))
  · have hk := ((CH_pw h k).en j hj).resolve_left e
    have hn' := stable h hst n j hj e
    rw [pw_it h hj] at e hk hn' ⊢
    rw [pw_it h hj]
    have hs : (itF F j k).toNat < n := by omega
    have h0 : 0 ≤ itF F (itF F j k).toNat n := by
      rw [← it_add k n hk.1]
      exact ((itF_en h.en hj (k + n)).resolve_left hn').1
    rw [it_add k 60 hk.1, it_60 h hs h0]
    omega
end
end

/-! Ways of a chart: each point is in just one of them; no program. -/
section
def Rch (F : Nat → Int) (s j : Nat) : Prop := ∃ k, itF F s k = (j : Int)
def Cyc (F : Nat → Int) (s : Nat) : Prop := ∃ p, 1 ≤ p ∧ itF F s p = (s : Int)
def NR (n : Nat) (F : Nat → Int) (s : Nat) : Prop := ∀ i, i < n → F i ≠ (s : Int)
section
variable {n : Nat} {F : Nat → Int} {a b c i j s : Nat}
theorem Rch.refl (F : Nat → Int) (s : Nat) : Rch F s s := ⟨0, rfl⟩
theorem it_via {k : Nat} (h : itF F a k = (b : Int)) (d : Nat) : itF F a (k + d) = itF F b d := by
  rw [it_add k d (by omega), h, Int.toNat_natCast]
theorem Rch.trans (h : Rch F a b) (h' : Rch F b c) : Rch F a c := by
  obtain ⟨k, e⟩ := h
  obtain ⟨d, e'⟩ := h'
  exact ⟨k + d, by rw [it_via e, e']⟩
theorem Rch.lt (hF : CH n F) (hs : s < n) (h : Rch F s j) : j < n := by
  obtain ⟨k, e⟩ := h
  have := (itF_en hF.en hs k).resolve_left (by omega)
  omega
theorem it_back2 (hF : CH n F) (ha : a < n) (hb : b < n) : ∀ k d, 0 ≤ itF F a k → itF F a k = itF F b (k + d) → itF F b d = (a : Int)
  | 0, d, _, e => by rw [Nat.zero_add] at e; rw [← e]; rfl
  | k + 1, d, h0, e => by
    have hd : k + 1 + d = (k + d) + 1 := by omega
    rw [hd] at e
    have a0 : 0 ≤ itF F a k := itF_down k 1 h0
    have b0 : 0 ≤ itF F b (k + d) := itF_down (k + d) 1 (by rw [← e]; exact h0)
    rw [itF_succ, itF_succ, if_pos a0, if_pos b0] at e
    rw [itF_succ, if_pos a0] at h0
    have ia := (itF_en hF.en ha k).resolve_left (by omega)
    have ib := (itF_en hF.en hb (k + d)).resolve_left (by omega)
    have := hF.inj (itF F a k).toNat (itF F b (k + d)).toNat (by omega) (by omega) (by omega) e
    exact it_back2 hF ha hb k d a0 (by omega)
theorem Rch.join (hF : CH n F) (ha : a < n) (hb : b < n) (h : Rch F a j) (h' : Rch F b j) : Rch F a b ∨ Rch F b a := by
  obtain ⟨k, e⟩ := h
  obtain ⟨d, e'⟩ := h'
  by_cases hkd : k ≤ d
  · right
    exact ⟨d - k, it_back2 hF ha hb k (d - k) (by omega) (by rw [show k + (d - k) = d by omega, e, e'])⟩
  · left
    exact ⟨k - d, it_back2 hF hb ha d (k - d) (by omega) (by rw [show d + (k - d) = k by omega, e, e'])⟩
theorem Cyc.pos (h : Cyc F s) (k : Nat) : 0 ≤ itF F s k := by
  obtain ⟨p, h1, e⟩ := h
  refine itF_down k (p * k - k) ?_
  have : k ≤ p * k := Nat.le_mul_of_pos_left k h1
  rw [show k + (p * k - k) = p * k by omega, it_mul e]; omega
theorem Cyc.back (h : Cyc F s) (hr : Rch F s j) : Rch F j s := by
  obtain ⟨p, h1, e⟩ := h
  obtain ⟨k, e'⟩ := hr
  have : k ≤ p * k := Nat.le_mul_of_pos_left k h1
  refine ⟨p * k - k, ?_⟩
  rw [← it_via e', show k + (p * k - k) = p * k by omega, it_mul e]
theorem Cyc.of (h : Cyc F s) (hr : Rch F s j) : Cyc F j := by
  obtain ⟨k, e⟩ := h.back hr
  obtain ⟨p, h1, e'⟩ := h
  obtain ⟨d, e''⟩ := hr
  exact ⟨k + (p + d), by omega, by rw [it_via e, it_via e', e'']⟩
theorem Cyc.to (hF : CH n F) (ha : a < n) (hj : j < n) (h : Cyc F j) (hr : Rch F a j) : Rch F j a := by
  obtain ⟨p, h1, e⟩ := h
  obtain ⟨k, e'⟩ := hr
  have : k ≤ p * k := Nat.le_mul_of_pos_left k h1
  exact ⟨p * k - k, it_back2 hF ha hj k (p * k - k) (by omega) (by rw [show k + (p * k - k) = p * k by omega, it_mul e, e'])⟩
theorem NR.only (hF : CH n F) (ha : a < n) (h : NR n F s) (hr : Rch F a s) : a = s := by
  obtain ⟨k, e⟩ := hr
  cases k with
  | zero => simp [itF] at e; omega
  | succ k =>
    rw [itF_succ] at e
    by_cases hc : 0 ≤ itF F a k
    · rw [if_pos hc] at e
      have := (itF_en hF.en ha k).resolve_left (by omega)
      exact absurd e (h _ (by omega))
    · rw [if_neg hc] at e; omega
theorem NR.noCyc (hF : CH n F) (hs : s < n) (h : NR n F s) : ¬ Cyc F s := by
  rintro ⟨p, h1, e⟩
  obtain ⟨q, rfl⟩ : ∃ q, p = q + 1 := ⟨p - 1, by omega⟩
  rw [itF_succ] at e
  by_cases hc : 0 ≤ itF F s q
  · rw [if_pos hc] at e
    have := (itF_en hF.en hs q).resolve_left (by omega)
    exact h _ (by omega) e
  · rw [if_neg hc] at e; omega
theorem it_turn (hF : CH n F) (hj : j < n) : ∀ k, 0 ≤ itF (trn n F) j k → itF F (itF (trn n F) j k).toNat k = (j : Int)
  | 0, _ => by show ((((j : Nat) : Int).toNat : Nat) : Int) = j; simp
  | k + 1, h0 => by
    have hT := CH_trn hF
    have a0 : 0 ≤ itF (trn n F) j k := itF_down k 1 h0
    have ia := (itF_en hT.en hj k).resolve_left (by omega)
    have ib := (itF_en hT.en hj (k + 1)).resolve_left (by omega)
    have e : trn n F (itF (trn n F) j k).toNat = (((itF (trn n F) j (k + 1)).toNat : Nat) : Int) := by
      rw [itF_succ, if_pos a0] at ib ⊢; omega
    have e' := (trn_iff hF (by omega) (by omega)).1 e
    generalize (itF (trn n F) j (k + 1)).toNat = i at e e'
    have h1 : itF F i 1 = (((itF (trn n F) j k).toNat : Nat) : Int) := by
      have e1 : itF F i 1 = F i := by
        rw [itF_succ, if_pos (show (0 : Int) ≤ itF F i 0 by simp [itF])]
        show F ((i : Int)).toNat = _
        rw [Int.toNat_natCast]
      rw [e1]; exact e'
    rw [Nat.add_comm, it_via h1]
    exact it_turn hF hj k a0
/-- each point is met from one that is not in the range, or comes back -/
theorem start_or_cyc (hF : CH n F) (hj : j < n) : (∃ s, s < n ∧ NR n F s ∧ Rch F s j) ∨ Cyc F j := by
  have hT := CH_trn hF
  by_cases hn : 0 ≤ itF (trn n F) j n
  · right
    obtain ⟨p, h1, h2, e⟩ := it_cycle hT hj hn
    have := it_turn hF hj p (by omega)
    rw [e, Int.toNat_natCast] at this
    exact ⟨p, h1, this⟩
  · left
    have : ∃ k, 0 ≤ itF (trn n F) j k ∧ ¬ 0 ≤ itF (trn n F) j (k + 1) := by
      apply Classical.byContradiction
      intro hno
      have hall : ∀ k, 0 ≤ itF (trn n F) j k := fun k => by
        induction k with
        | zero => simp [itF]
        | succ k ih =>
          apply Classical.byContradiction
          intro h
          exact hno ⟨k, ih, h⟩
      exact hn (hall n)
    obtain ⟨k, h0, h1⟩ := this
    have ia := (itF_en hT.en hj k).resolve_left (by omega)
    refine ⟨(itF (trn n F) j k).toNat, by omega, ?_, ⟨k, it_turn hF hj k h0⟩⟩
    refine (trn_none hF (by omega)).1 ?_
    rw [itF_succ, if_pos h0] at h1
    exact (hT.en _ (by omega)).resolve_right (fun h => h1 h.1)

/-! ### one way -/
theorem wEnd_spec (hF : CH n F) (hs : s < n) : ∀ d k, d = n - k → k < n → 0 ≤ itF F s k → (∀ i, 1 ≤ i → i ≤ k → itF F s i ≠ (s : Int)) →
    wEnd F s d k < n ∧ 0 ≤ itF F s (wEnd F s d k) ∧ (∀ i, 1 ≤ i → i ≤ wEnd F s d k → itF F s i ≠ (s : Int)) ∧ (itF F s (wEnd F s d k + 1) = -1 ∨ itF F s (wEnd F s d k + 1) = (s : Int))
  | 0, k, hd, hk, _, _ => by omega
  | d + 1, k, hd, hk, h0, hne => by
    unfold wEnd
    by_cases hc : 0 ≤ itF F s (k + 1) ∧ itF F s (k + 1) ≠ (s : Int)
    · rw [if_pos hc]
      have hne' : ∀ i, 1 ≤ i → i ≤ k + 1 → itF F s i ≠ (s : Int) := fun i h1 h2 => by
        by_cases e : i = k + 1
        · rw [e]; exact hc.2
        · exact hne i h1 (by omega)
      have := itF_short hF hs hc.1 hne'
      exact wEnd_spec hF hs d (k + 1) (by omega) (by omega) hc.1 hne'
    · rw [if_neg hc]
      refine ⟨hk, h0, hne, ?_⟩
      by_cases e : itF F s (k + 1) = (s : Int)
      · exact .inr e
      · rcases itF_en hF.en hs (k + 1) with h1 | h1
        · exact .inl h1
        · exact absurd ⟨h1.1, e⟩ hc
theorem way_spec (hF : CH n F) (hs : s < n) : ∃ e, wayL F n s = LT (e + 1) (itF F s) ∧ e < n ∧ 0 ≤ itF F s e ∧ (∀ i, 1 ≤ i → i ≤ e → itF F s i ≠ (s : Int)) ∧ (itF F s (e + 1) = -1 ∨ itF F s (e + 1) = (s : Int)) :=
  ⟨wEnd F s n 0, rfl, wEnd_spec hF hs n 0 (by omega) (by omega) (by simp [itF]) (fun i h1 h2 => by omega)⟩
theorem mem_LT {m : Nat} {T : Nat → Int} {z : Int} : z ∈ LT m T ↔ ∃ k, k < m ∧ T k = z := by simp [LT]
theorem it_inj (hF : CH n F) (hs : s < n) {e : Nat} (h0 : 0 ≤ itF F s e) (hne : ∀ i, 1 ≤ i → i ≤ e → itF F s i ≠ (s : Int)) {x y : Nat} (hx : x ≤ e) (hy : y ≤ e) (h : itF F s x = itF F s y) : x = y := by
  have px := itF_down x (e - x) (by rw [show x + (e - x) = e by omega]; exact h0)
  have py := itF_down y (e - y) (by rw [show y + (e - y) = e by omega]; exact h0)
  rcases Nat.lt_trichotomy x y with hlt | he | hlt
  · have := itF_back hF hs x (y - x) (by rw [show x + (y - x) = y by omega]; exact py) (by rw [show x + (y - x) = y by omega]; exact h)
    exact absurd this (hne (y - x) (by omega) (by omega))
  · exact he
  · have := itF_back hF hs y (x - y) (by rw [show y + (x - y) = x by omega]; exact px) (by rw [show y + (x - y) = x by omega]; exact h.symm)
    exact absurd this (hne (x - y) (by omega) (by omega))
theorem way_ent (hF : CH n F) (hs : s < n) : ∀ z ∈ wayL F n s, 0 ≤ z ∧ z < n := fun z hz => by
  obtain ⟨e, h1, h2, h3, h4, h5⟩ := way_spec hF hs
  rw [h1, mem_LT] at hz
  obtain ⟨k, hk, rfl⟩ := hz
  have := itF_down k (e - k) (by rw [show k + (e - k) = e by omega]; exact h3)
  exact (itF_en hF.en hs k).resolve_left (by omega)
theorem way_nodup (hF : CH n F) (hs : s < n) : (wayL F n s).Nodup := by
  obtain ⟨e, h1, h2, h3, h4, h5⟩ := way_spec hF hs
  rw [h1]; unfold LT List.Nodup
  rw [List.pairwise_map]
  refine (List.pairwise_lt_range (n := e + 1)).imp_of_mem (fun {x y} hx hy hlt he => ?_)
  have := it_inj hF hs h3 h4 (by have := List.mem_range.1 hx; omega) (by have := List.mem_range.1 hy; omega) he
  omega
/-- a start of a chain, or a point that comes back -/
theorem mem_way (hF : CH n F) (hs : s < n) (hp : NR n F s ∨ Cyc F s) : (j : Int) ∈ wayL F n s ↔ Rch F s j := by
  obtain ⟨e, h1, h2, h3, h4, h5⟩ := way_spec hF hs
  rw [h1, mem_LT]
  refine ⟨fun ⟨k, _, h⟩ => ⟨k, h⟩, fun ⟨k, h⟩ => ?_⟩
  rcases hp with hn | hc
  · have h6 : itF F s (e + 1) = -1 := h5.resolve_right (fun h => hn.noCyc hF hs ⟨e + 1, by omega, h⟩)
    refine ⟨k, ?_, h⟩
    apply Classical.byContradiction
    intro hge
    have := itF_down (s := s) (F := F) (e + 1) (k - (e + 1)) (by rw [show e + 1 + (k - (e + 1)) = k by omega]; omega)
    omega
  · have h6 : itF F s (e + 1) = (s : Int) := h5.resolve_left (fun h => by have := hc.pos (e + 1); omega)
    refine ⟨k % (e + 1), Nat.mod_lt _ (by omega), ?_⟩
    rw [← h]
    have e' := it_mul h6 (k / (e + 1))
    conv => rhs; rw [show k = (e + 1) * (k / (e + 1)) + k % (e + 1) from (Nat.div_add_mod k (e + 1)).symm]
    rw [it_via e']

/-! ### all ways -/
def orL (m : Nat) (L : List Int) : Nat := L.foldl (fun a z => a ||| 1 <<< z.toNat) m
def orSS (m : Nat) (Ls : List (List Int)) : Nat := Ls.foldl orL m
theorem orL_bit : ∀ (L : List Int) (m : Nat), (∀ z ∈ L, 0 ≤ z) → ((orL m L).testBit j = true ↔ m.testBit j = true ∨ (j : Int) ∈ L)
  | [], m, _ => by simp [orL]
  | z :: L, m, h => by
    have hz := h z List.mem_cons_self
    have ih := orL_bit L (m ||| 1 <<< z.toNat) (fun y hy => h y (List.mem_cons_of_mem _ hy))
    show (orL (m ||| 1 <<< z.toNat) L).testBit j = true ↔ _
    rw [ih, Nat.testBit_or, Nat.one_shiftLeft, Nat.testBit_two_pow, List.mem_cons, Bool.or_eq_true, decide_eq_true_eq, or_assoc]
    have : (z.toNat = j) ↔ ((j : Int) = z) := by omega
    rw [this]
theorem orSS_bit : ∀ (Ls : List (List Int)) (m : Nat), (∀ L ∈ Ls, ∀ z ∈ L, 0 ≤ z) → ((orSS m Ls).testBit j = true ↔ m.testBit j = true ∨ ∃ L ∈ Ls, (j : Int) ∈ L)
  | [], m, _ => by simp [orSS]
  | L :: Ls, m, h => by
    show (orSS (orL m L) Ls).testBit j = true ↔ _
    rw [orSS_bit Ls _ (fun M hM => h M (List.mem_cons_of_mem _ hM)), orL_bit L m (h L List.mem_cons_self), or_assoc]
    simp
theorem orL_lt : ∀ (L : List Int) (m : Nat), m < 64 → (∀ z ∈ L, 0 ≤ z ∧ z < 6) → orL m L < 64
  | [], m, hm, _ => hm
  | z :: L, m, hm, h => orL_lt L _ (mask_lt' hm (by have := h z List.mem_cons_self; omega)) (fun y hy => h y (List.mem_cons_of_mem _ hy))
theorem orSS_lt : ∀ (Ls : List (List Int)) (m : Nat), m < 64 → (∀ L ∈ Ls, ∀ z ∈ L, 0 ≤ z ∧ z < 6) → orSS m Ls < 64
  | [], m, hm, _ => hm
  | L :: Ls, m, hm, h => orSS_lt Ls _ (orL_lt L m hm (h L List.mem_cons_self)) (fun M hM => h M (List.mem_cons_of_mem _ hM))
theorem orSS_snoc (m : Nat) (Ls : List (List Int)) (L : List Int) : orSS m (Ls ++ [L]) = orL (orSS m Ls) L := by simp [orSS]
theorem orL_snoc (m : Nat) (L : List Int) (z : Int) : orL m (L ++ [z]) = orL m L ||| 1 <<< z.toNat := by simp [orL]

/-- the chains whose first points lie below k (m: the range) -/
def chL (F : Nat → Int) (n m : Nat) : Nat → List (List Int)
  | 0 => []
  | k + 1 => if m.testBit k = true then chL F n m k else chL F n m k ++ [wayL F n k]
/-- the cycles whose least points lie below k (s: what is met by chains) -/
def cyL (F : Nat → Int) (n s : Nat) : Nat → List (List Int)
  | 0 => []
  | k + 1 => if (orSS s (cyL F n s k)).testBit k = true then cyL F n s k else cyL F n s k ++ [wayL F n k]
/-- how often a number stands in lists -/
def occ : List (List Int) → Int → Nat
  | [], _ => 0
  | L :: Ls, z => L.count z + occ Ls z
theorem occ_append (Ls Ms : List (List Int)) (z : Int) : occ (Ls ++ Ms) z = occ Ls z + occ Ms z := by
  induction Ls with
  | nil => simp [occ]
  | cons L Ls ih => simp only [List.cons_append, occ, ih]; omega
theorem occ_snoc (Ls : List (List Int)) (L : List Int) (z : Int) : occ (Ls ++ [L]) z = occ Ls z + L.count z := by rw [occ_append]; simp [occ]
theorem count_in {L : List Int} (h : L.Nodup) {z : Int} (hz : z ∈ L) : L.count z = 1 := by
  have h1 := List.nodup_iff_count.1 h z
  have h2 := List.count_pos_iff.2 hz
  omega
theorem occ_mem {Ls : List (List Int)} {z : Int} (h : occ Ls z = 0) : ∀ L ∈ Ls, z ∉ L := by
  induction Ls with
  | nil => intro L hL; cases hL
  | cons M Ls ih =>
    intro L hL hz
    simp only [occ] at h
    rcases List.mem_cons.1 hL with rfl | hL
    · have := List.count_pos_iff.2 hz; omega
    · exact ih (by omega) L hL hz
theorem mem_occ {Ls : List (List Int)} {z : Int} (h : ∀ L ∈ Ls, z ∉ L) : occ Ls z = 0 := by
  induction Ls with
  | nil => rfl
  | cons M Ls ih =>
    simp only [occ]
    rw [List.count_eq_zero.2 (h M List.mem_cons_self), ih (fun L hL => h L (List.mem_cons_of_mem _ hL))]

variable {m : Nat}
theorem chL_ent (hF : CH n F) : ∀ k, k ≤ n → ∀ L ∈ chL F n m k, ∀ z ∈ L, 0 ≤ z ∧ z < n
  | 0, _, L, hL => by cases hL
  | k + 1, hk, L, hL => by
    unfold chL at hL
    split at hL
    · exact chL_ent hF k (by omega) L hL
    · rcases List.mem_append.1 hL with h | h
      · exact chL_ent hF k (by omega) L h
      · rw [List.mem_singleton.1 h]; exact way_ent hF (by omega)
theorem cyL_ent (hF : CH n F) : ∀ k, k ≤ n → ∀ L ∈ cyL F n m k, ∀ z ∈ L, 0 ≤ z ∧ z < n
  | 0, _, L, hL => by cases hL
  | k + 1, hk, L, hL => by
    unfold cyL at hL
    split at hL
    · exact cyL_ent hF k (by omega) L hL
    · rcases List.mem_append.1 hL with h | h
      · exact cyL_ent hF k (by omega) L h
      · rw [List.mem_singleton.1 h]; exact way_ent hF (by omega)
/-- the range, as a mask -/
def RangeM (n : Nat) (F : Nat → Int) (m : Nat) : Prop := ∀ i, i < n → (m.testBit i = false ↔ NR n F i)
theorem chL_occ (hF : CH n F) (hm : RangeM n F m) (hj : j < n) : ∀ k, k ≤ n → ((∃ s, s < k ∧ NR n F s ∧ Rch F s j) → occ (chL F n m k) j = 1) ∧ (¬ (∃ s, s < k ∧ NR n F s ∧ Rch F s j) → occ (chL F n m k) j = 0)
  | 0, _ => ⟨fun ⟨s, h, _⟩ => by omega, fun _ => rfl⟩
  | k + 1, hk => by
    have ih := chL_occ hF hm hj k (by omega)
    have hmk := hm k (by omega)
    unfold chL
    by_cases hb : m.testBit k = true
    · rw [if_pos hb]
      have hn : ¬ NR n F k := fun h => by rw [hmk.2 h] at hb; cases hb
      refine ⟨fun ⟨s, h1, h2, h3⟩ => ih.1 ⟨s, ?_, h2, h3⟩, fun h => ih.2 fun ⟨s, h1, h2⟩ => h ⟨s, by omega, h2⟩⟩
      apply Classical.byContradiction
      intro hge
      have : s = k := by omega
      subst this; exact hn h2
    · rw [if_neg hb, occ_snoc]
      have hn : NR n F k := hmk.1 (by simpa using hb)
      have hw := mem_way (j := j) hF (show k < n by omega) (.inl hn)
      by_cases hr : Rch F k j
      · have h0 : occ (chL F n m k) j = 0 := ih.2 fun ⟨s, h1, h2, h3⟩ => by
          rcases Rch.join hF (by omega) (by omega) h3 hr with h4 | h4
          · have := hn.only hF (by omega) h4; omega
          · have := h2.only hF (by omega) h4; omega
        rw [h0, count_in (way_nodup hF (by omega)) (hw.2 hr)]
        exact ⟨fun _ => rfl, fun h => absurd ⟨k, by omega, hn, hr⟩ h⟩
      · rw [List.count_eq_zero.2 (fun h => hr (hw.1 h)), Nat.add_zero]
        refine ⟨fun ⟨s, h1, h2, h3⟩ => ih.1 ⟨s, ?_, h2, h3⟩, fun h => ih.2 fun ⟨s, h1, h2⟩ => h ⟨s, by omega, h2⟩⟩
        apply Classical.byContradiction
        intro hge
        have : s = k := by omega
        subst this; exact hr h3
/-- what chains meet -/
def ChainM (n : Nat) (F : Nat → Int) (q : Nat) : Prop := ∀ j, j < n → (q.testBit j = true ↔ ∃ s, s < n ∧ NR n F s ∧ Rch F s j)
theorem chL_mask (hF : CH n F) (hm : RangeM n F m) : ChainM n F (orSS 0 (chL F n m n)) := fun j hj => by
  have ho := chL_occ hF hm hj n (Nat.le_refl _)
  rw [orSS_bit _ _ (fun L hL z hz => (chL_ent hF n (Nat.le_refl _) L hL z hz).1)]
  simp only [Nat.zero_testBit, Bool.false_eq_true, false_or]
  constructor
  · rintro ⟨L, hL, hz⟩
    apply Classical.byContradiction
    intro hno
    exact occ_mem (ho.2 hno) L hL hz
  · intro hex
    apply Classical.byContradiction
    intro hno
    have := mem_occ (Ls := chL F n m n) (z := (j : Int)) (fun L hL hz => hno ⟨L, hL, hz⟩)
    have := ho.1 hex
    omega
theorem cyL_occ (hF : CH n F) {q : Nat} (hq : ChainM n F q) : ∀ k, k ≤ n → ∀ j, j < n → (Cyc F j → (∃ i, i < k ∧ Rch F j i) → occ (cyL F n q k) j = 1) ∧ (¬ (Cyc F j ∧ ∃ i, i < k ∧ Rch F j i) → occ (cyL F n q k) j = 0)
  | 0, _, j, _ => ⟨fun _ ⟨s, h, _⟩ => by omega, fun _ => rfl⟩
  | k + 1, hk, j, hj => by
    have ih := cyL_occ hF hq k (by omega) j hj
    have hbit : (orSS q (cyL F n q k)).testBit k = true ↔ (¬ Cyc F k ∨ ∃ i, i < k ∧ Rch F k i) := by
      have ihk := cyL_occ hF hq k (by omega) k (show k < n by omega)
      rw [orSS_bit _ _ (fun L hL z hz => (cyL_ent hF k (by omega) L hL z hz).1), hq k (by omega)]
      constructor
      · rintro (⟨s, h1, h2, h3⟩ | ⟨L, hL, hz⟩)
        · exact .inl fun hc => h2.noCyc hF h1 (hc.of (hc.to hF h1 (by omega) h3))
        · apply Classical.byContradiction
          intro hno
          refine occ_mem (ihk.2 fun h => hno (.inr h.2)) L hL hz
      · intro h
        rcases start_or_cyc hF (show k < n by omega) with h1 | h1
        · exact .inl h1
        · right
          apply Classical.byContradiction
          intro hno
          have h2 := mem_occ (Ls := cyL F n q k) (z := (k : Int)) (fun L hL hz => hno ⟨L, hL, hz⟩)
          have h3 := ihk.1 h1 (h.resolve_left (fun h' => h' h1))
          omega
    unfold cyL
    by_cases hb : (orSS q (cyL F n q k)).testBit k = true
    · rw [if_pos hb]
      have hbk := hbit.1 hb
      have key : Cyc F j → (∃ i, i < k + 1 ∧ Rch F j i) → ∃ i, i < k ∧ Rch F j i := fun hc ⟨i, h1, h2⟩ => by
        by_cases e : i = k
        · subst e
          rcases hbk with h3 | ⟨i', h3, h4⟩
          · exact absurd (hc.of h2) h3
          · exact ⟨i', h3, h2.trans h4⟩
        · exact ⟨i, by omega, h2⟩
      exact ⟨fun hc h => ih.1 hc (key hc h), fun h => ih.2 fun ⟨hc, i, h1, h2⟩ => h ⟨hc, i, by omega, h2⟩⟩
    · rw [if_neg hb, occ_snoc]
      have hnb := fun h => hb (hbit.2 h)
      have hck : Cyc F k := Classical.byContradiction fun h => hnb (.inl h)
      have hw := mem_way (j := j) hF (show k < n by omega) (.inr hck)
      by_cases hr : Rch F k j
      · have hjc := hck.of hr
        have h0 : occ (cyL F n q k) j = 0 := ih.2 fun ⟨_, i, h1, h2⟩ => hnb (.inr ⟨i, h1, hr.trans h2⟩)
        rw [h0, count_in (way_nodup hF (by omega)) (hw.2 hr)]
        exact ⟨fun _ _ => rfl, fun h => absurd ⟨hjc, k, by omega, hck.back hr⟩ h⟩
      · rw [List.count_eq_zero.2 (fun h => hr (hw.1 h)), Nat.add_zero]
        refine ⟨fun hc ⟨i, h1, h2⟩ => ih.1 hc ⟨i, ?_, h2⟩, fun h => ih.2 fun ⟨hc, i, h1, h2⟩ => h ⟨hc, i, by omega, h2⟩⟩
        apply Classical.byContradiction
        intro hge
        have : i = k := by omega
        subst this; exact hr (hc.back h2)
/-- each point is in just one way -/
theorem ways_once (hF : CH n F) (hm : RangeM n F m) (hj : j < n) : occ (chL F n m n ++ cyL F n (orSS 0 (chL F n m n)) n) j = 1 := by
  have h1 := chL_occ hF hm hj n (Nat.le_refl _)
  have h2 := cyL_occ hF (chL_mask hF hm) n (Nat.le_refl _) j hj
  rw [occ_append]
  rcases start_or_cyc hF hj with h | h
  · have hnc : ¬ Cyc F j := fun hc => by
      obtain ⟨s, h3, h4, h5⟩ := h
      exact h4.noCyc hF h3 (hc.of (hc.to hF h3 hj h5))
    rw [h1.1 h, h2.2 (fun h' => hnc h'.1)]
  · have hns : ¬ ∃ s, s < n ∧ NR n F s ∧ Rch F s j := fun ⟨s, h3, h4, h5⟩ => h4.noCyc hF h3 (h.of (h.to hF h3 hj h5))
    rw [h1.2 hns, h2.1 h ⟨j, hj, Rch.refl F j⟩]
end

/-! ### sums over points -/
def sumP (g : Nat → Nat) : Nat → Nat
  | 0 => 0
  | k + 1 => sumP g k + g k
def sumL (g : Nat → Nat) : List Int → Nat
  | [] => 0
  | z :: L => g z.toNat + sumL g L
def sumSS (g : Nat → Nat) : List (List Int) → Nat
  | [] => 0
  | L :: Ls => sumL g L + sumSS g Ls
theorem sumP_congr {g g' : Nat → Nat} : ∀ {k : Nat}, (∀ j, j < k → g j = g' j) → sumP g k = sumP g' k
  | 0, _ => rfl
  | k + 1, h => by simp only [sumP]; rw [sumP_congr (fun j hj => h j (by omega)), h k (by omega)]
theorem sumP_add (g g' : Nat → Nat) : ∀ k, sumP (fun j => g j + g' j) k = sumP g k + sumP g' k
  | 0 => rfl
  | k + 1 => by simp only [sumP]; rw [sumP_add g g' k]; omega
theorem sumP_one (g : Nat → Nat) {z : Nat} : ∀ {k : Nat}, z < k → sumP (fun j => g j * (if (z : Int) = (j : Int) then 1 else 0)) k = g z
  | 0, h => by omega
  | k + 1, h => by
    simp only [sumP]
    by_cases e : z = k
    · subst e
      rw [if_pos rfl, sumP_congr (g' := fun _ => 0) (fun j hj => by rw [if_neg (by omega)]; simp)]
      have : ∀ k, sumP (fun _ => 0) k = 0 := fun k => by induction k with
        | zero => rfl
        | succ k ih => simp [sumP, ih]
      rw [this]; omega
    · rw [sumP_one g (by omega), if_neg (by omega)]; omega
theorem sumL_count (g : Nat → Nat) {n : Nat} : ∀ (L : List Int), (∀ z ∈ L, 0 ≤ z ∧ z < n) → sumL g L = sumP (fun j => g j * L.count (j : Int)) n
  | [], _ => by
    have : ∀ k, sumP (fun j => g j * ([] : List Int).count (j : Int)) k = 0 := fun k => by induction k with
      | zero => rfl
      | succ k ih => simp only [sumP, ih]; simp
    rw [this]; rfl
  | z :: L, h => by
    have hz := h z List.mem_cons_self
    obtain ⟨y, rfl⟩ := Int.eq_ofNat_of_zero_le hz.1
    simp only [sumL]
    rw [sumL_count g L (fun x hx => h x (List.mem_cons_of_mem _ hx)), Int.toNat_natCast, ← sumP_one g (show y < n by omega), ← sumP_add]
    refine sumP_congr (fun j hj => ?_)
    rw [List.count_cons, Nat.mul_add]
    simp only [beq_iff_eq]
    omega
theorem sumSS_occ (g : Nat → Nat) {n : Nat} : ∀ (Ls : List (List Int)), (∀ L ∈ Ls, ∀ z ∈ L, 0 ≤ z ∧ z < n) → sumSS g Ls = sumP (fun j => g j * occ Ls (j : Int)) n
  | [], _ => by
    have : ∀ k, sumP (fun j => g j * occ [] (j : Int)) k = 0 := fun k => by induction k with
      | zero => rfl
      | succ k ih => simp only [sumP, ih]; simp [occ]
    rw [this]; rfl
  | L :: Ls, h => by
    simp only [sumSS]
    rw [sumSS_occ g Ls (fun M hM => h M (List.mem_cons_of_mem _ hM)), sumL_count g L (h L List.mem_cons_self), ← sumP_add]
    exact sumP_congr (fun j hj => by simp only [occ]; rw [Nat.mul_add])
/-- over all ways, each point once -/
theorem sum_ways {n m : Nat} {F : Nat → Int} (hF : CH n F) (hm : RangeM n F m) (g : Nat → Nat) : sumSS g (chL F n m n ++ cyL F n (orSS 0 (chL F n m n)) n) = sumP g n := by
  rw [sumSS_occ g (n := n)]
  · exact sumP_congr (fun j hj => by rw [ways_once hF hm hj, Nat.mul_one])
  · intro L hL
    rcases List.mem_append.1 hL with h | h
    · exact chL_ent hF n (Nat.le_refl _) L h
    · exact cyL_ent hF n (Nat.le_refl _) L h
end

/-! Shapes: the lengths of the ways tell how many points each power moves, and how many it leaves, and these tell the lengths; no program. -/
section
/-- how many points are moved k times -/
def rkF (n : Nat) (F : Nat → Int) (k : Nat) : Nat := sumP (fun j => if 0 ≤ itF F j k then 1 else 0) n
/-- how many points are at home after k moves -/
def fxF (n : Nat) (F : Nat → Int) (k : Nat) : Nat := sumP (fun j => if itF F j k = (j : Int) then 1 else 0) n
/-- the lengths of lists -/
def lens (Ls : List (List Int)) : List Int := Ls.map (fun L => (L.length : Int))

theorem sumL_append (g : Nat → Nat) (L M : List Int) : sumL g (L ++ M) = sumL g L + sumL g M := by
  induction L with
  | nil => simp [sumL]
  | cons z L ih => simp only [List.cons_append, sumL, ih]; omega
theorem sumL_LT (g : Nat → Nat) (T : Nat → Int) : ∀ m, sumL g (LT m T) = sumP (fun i => g (T i).toNat) m
  | 0 => rfl
  | m + 1 => by rw [LT_succ, sumL_append, sumL_LT g T m]; simp [sumL, sumP]
theorem sumSS_append (g : Nat → Nat) (Ls Ms : List (List Int)) : sumSS g (Ls ++ Ms) = sumSS g Ls + sumSS g Ms := by
  induction Ls with
  | nil => simp [sumSS]
  | cons z L ih => simp only [List.cons_append, sumSS, ih]; omega
theorem sumP_le (k e : Nat) : ∀ m, m ≤ e + 1 → sumP (fun i => if i + k ≤ e then 1 else 0) m = min m (e + 1 - k)
  | 0, _ => by simp [sumP]
  | m + 1, h => by
    simp only [sumP]
    rw [sumP_le k e m (by omega)]
    by_cases hc : m + k ≤ e
    · rw [if_pos hc]; omega
    · rw [if_neg hc]; omega
theorem sumP_const (c : Nat) : ∀ m, sumP (fun _ => c) m = m * c
  | 0 => by simp [sumP]
  | m + 1 => by simp only [sumP]; rw [sumP_const c m, Nat.succ_mul]

section
variable {n : Nat} {F : Nat → Int} {s : Nat}
theorem way_len (hF : CH n F) (hs : s < n) : 1 ≤ (wayL F n s).length ∧ (wayL F n s).length ≤ n := by
  obtain ⟨e, h1, h2, h3, h4, h5⟩ := way_spec hF hs
  rw [h1, LT_length]; omega
theorem chain_moved (hF : CH n F) (hs : s < n) (hn : NR n F s) (k : Nat) : sumL (fun j => if 0 ≤ itF F j k then 1 else 0) (wayL F n s) = (wayL F n s).length - k := by
  obtain ⟨e, h1, h2, h3, h4, h5⟩ := way_spec hF hs
  have h6 : itF F s (e + 1) = -1 := h5.resolve_right (fun h => hn.noCyc hF hs ⟨e + 1, by omega, h⟩)
  rw [h1, LT_length, sumL_LT, sumP_congr (g' := fun i => if i + k ≤ e then 1 else 0), sumP_le k e (e + 1) (Nat.le_refl _)]
  · omega
  · intro i hi
    have p := itF_down i (e - i) (by rw [show i + (e - i) = e by omega]; exact h3)
    show (if 0 ≤ itF F (itF F s i).toNat k then 1 else 0) = _
    rw [← it_add i k p]
    by_cases hc : i + k ≤ e
    · rw [if_pos hc, if_pos (itF_down (i + k) (e - (i + k)) (by rw [show i + k + (e - (i + k)) = e by omega]; exact h3))]
    · rw [if_neg hc, if_neg]
      intro h
      have := itF_down (s := s) (F := F) (e + 1) (i + k - (e + 1)) (by rw [show e + 1 + (i + k - (e + 1)) = i + k by omega]; exact h)
      omega
theorem cycle_moved (hF : CH n F) (hs : s < n) (hc : Cyc F s) (k : Nat) : sumL (fun j => if 0 ≤ itF F j k then 1 else 0) (wayL F n s) = (wayL F n s).length := by
  obtain ⟨e, h1, h2, h3, h4, h5⟩ := way_spec hF hs
  rw [h1, LT_length, sumL_LT, sumP_congr (g' := fun _ => 1), sumP_const, Nat.mul_one]
  intro i _
  show (if 0 ≤ itF F (itF F s i).toNat k then 1 else 0) = _
  rw [← it_add i k (hc.pos i), if_pos (hc.pos _)]
theorem chain_home (hF : CH n F) (hs : s < n) (hn : NR n F s) {k : Nat} (hk : 1 ≤ k) : sumL (fun j => if itF F j k = (j : Int) then 1 else 0) (wayL F n s) = 0 := by
  obtain ⟨e, h1, h2, h3, h4, h5⟩ := way_spec hF hs
  rw [h1, sumL_LT, sumP_congr (g' := fun _ => 0), sumP_const, Nat.mul_zero]
  intro i hi
  have p := itF_down i (e - i) (by rw [show i + (e - i) = e by omega]; exact h3)
  show (if itF F (itF F s i).toNat k = (((itF F s i).toNat : Nat) : Int) then 1 else 0) = _
  rw [← it_add i k p, if_neg]
  intro h
  exact hn.noCyc hF hs ⟨k, hk, itF_back hF hs i k (by omega) (by omega)⟩
theorem cycle_home (hF : CH n F) (hs : s < n) (hc : Cyc F s) (k : Nat) : sumL (fun j => if itF F j k = (j : Int) then 1 else 0) (wayL F n s) = if k % (wayL F n s).length = 0 then (wayL F n s).length else 0 := by
  obtain ⟨e, h1, h2, h3, h4, h5⟩ := way_spec hF hs
  have h6 : itF F s (e + 1) = (s : Int) := h5.resolve_left (fun h => by have := hc.pos (e + 1); omega)
  have hk : itF F s k = itF F s (k % (e + 1)) := by
    conv => lhs; rw [show k = (e + 1) * (k / (e + 1)) + k % (e + 1) from (Nat.div_add_mod k (e + 1)).symm]
    rw [it_via (it_mul h6 _)]
  have hiff : itF F s k = (s : Int) ↔ k % (e + 1) = 0 := by
    rw [hk]
    have hlt := Nat.mod_lt k (show 0 < e + 1 by omega)
    constructor
    · intro h
      apply Classical.byContradiction
      intro h0
      exact h4 _ (by omega) (by omega) h
    · intro h; rw [h]; rfl
  rw [h1, LT_length, sumL_LT, sumP_congr (g' := fun _ => if k % (e + 1) = 0 then 1 else 0), sumP_const]
  · by_cases hc' : k % (e + 1) = 0
    · rw [if_pos hc', if_pos hc', Nat.mul_one]
    · rw [if_neg hc', if_neg hc', Nat.mul_zero]
  · intro i hi
    show (if itF F (itF F s i).toNat k = (((itF F s i).toNat : Nat) : Int) then 1 else 0) = _
    have p := hc.pos i
    rw [← it_add i k p]
    by_cases hc' : k % (e + 1) = 0
    · rw [if_pos hc', if_pos]
      rw [Nat.add_comm, it_via (hiff.2 hc')]; omega
    · rw [if_neg hc', if_neg]
      intro h
      exact hc' (hiff.1 (itF_back hF hs i k (by have := hc.pos (i + k); exact this) (by omega)))

/-! ### all ways -/
def sub_ (k : Nat) (x : Int) : Nat := x.toNat - k
def per_ (k : Nat) (x : Int) : Nat := if k % x.toNat = 0 then x.toNat else 0
def sumI (g : Int → Nat) : List Int → Nat
  | [] => 0
  | x :: L => g x + sumI g L
theorem sumI_append (g : Int → Nat) (L M : List Int) : sumI g (L ++ M) = sumI g L + sumI g M := by
  induction L with
  | nil => simp [sumI]
  | cons z L ih => simp only [List.cons_append, sumI, ih]; omega
theorem lens_append (L M : List (List Int)) : lens (L ++ M) = lens L ++ lens M := by simp [lens]
variable {m q : Nat}
theorem chL_moved (hF : CH n F) (hm : RangeM n F m) (k : Nat) : ∀ b, b ≤ n → sumSS (fun j => if 0 ≤ itF F j k then 1 else 0) (chL F n m b) = sumI (sub_ k) (lens (chL F n m b))
  | 0, _ => rfl
  | b + 1, hb => by
    unfold chL
    by_cases h : m.testBit b = true
    · rw [if_pos h]; exact chL_moved hF hm k b (by omega)
    · rw [if_neg h, sumSS_append, chL_moved hF hm k b (by omega), lens_append, sumI_append]
      simp only [sumSS, Nat.add_zero, lens, List.map_cons, List.map_nil, sumI, sub_, Int.toNat_natCast]
      rw [chain_moved hF (by omega) ((hm b (by omega)).1 (by simpa using h)) k]
theorem chL_home (hF : CH n F) (hm : RangeM n F m) {k : Nat} (hk : 1 ≤ k) : ∀ b, b ≤ n → sumSS (fun j => if itF F j k = (j : Int) then 1 else 0) (chL F n m b) = 0
  | 0, _ => rfl
  | b + 1, hb => by
    unfold chL
    by_cases h : m.testBit b = true
    · rw [if_pos h]; exact chL_home hF hm hk b (by omega)
    · rw [if_neg h, sumSS_append, chL_home hF hm hk b (by omega)]
      simp only [sumSS, Nat.add_zero, Nat.zero_add]
      exact chain_home hF (by omega) ((hm b (by omega)).1 (by simpa using h)) hk
/-- whose cycles are told comes back -/
theorem cyL_new (hF : CH n F) (hq : ChainM n F q) {b : Nat} (hb : b < n) (h : ¬ (orSS q (cyL F n q b)).testBit b = true) : Cyc F b ∧ ∀ i, i < b → ¬ Rch F b i := by
  have hb' : ¬ ((∃ s, s < n ∧ NR n F s ∧ Rch F s b) ∨ ∃ L ∈ cyL F n q b, (b : Int) ∈ L) := fun h' => h ((orSS_bit _ _ (fun L hL z hz => (cyL_ent hF b (by omega) L hL z hz).1)).2 (by rw [hq b hb]; exact h'))
  have hc : Cyc F b := (start_or_cyc hF hb).resolve_left (fun h' => hb' (.inl h'))
  refine ⟨hc, fun i hi hr => hb' (.inr ?_)⟩
  apply Classical.byContradiction
  intro hno
  have h2 := mem_occ (Ls := cyL F n q b) (z := (b : Int)) (fun L hL hz => hno ⟨L, hL, hz⟩)
  have h3 := (cyL_occ hF hq b (by omega) b hb).1 hc ⟨i, hi, hr⟩
  omega
theorem cyL_moved (hF : CH n F) (hq : ChainM n F q) (k : Nat) : ∀ b, b ≤ n → sumSS (fun j => if 0 ≤ itF F j k then 1 else 0) (cyL F n q b) = sumI (sub_ 0) (lens (cyL F n q b))
  | 0, _ => rfl
  | b + 1, hb => by
    unfold cyL
    by_cases h : (orSS q (cyL F n q b)).testBit b = true
    · rw [if_pos h]; exact cyL_moved hF hq k b (by omega)
    · rw [if_neg h, sumSS_append, cyL_moved hF hq k b (by omega), lens_append, sumI_append]
      simp only [sumSS, Nat.add_zero, lens, List.map_cons, List.map_nil, sumI, sub_, Int.toNat_natCast]
      rw [cycle_moved hF (by omega) (cyL_new hF hq (by omega) h).1 k]; simp
theorem cyL_home (hF : CH n F) (hq : ChainM n F q) (k : Nat) : ∀ b, b ≤ n → sumSS (fun j => if itF F j k = (j : Int) then 1 else 0) (cyL F n q b) = sumI (per_ k) (lens (cyL F n q b))
  | 0, _ => rfl
  | b + 1, hb => by
    unfold cyL
    by_cases h : (orSS q (cyL F n q b)).testBit b = true
    · rw [if_pos h]; exact cyL_home hF hq k b (by omega)
    · rw [if_neg h, sumSS_append, cyL_home hF hq k b (by omega), lens_append, sumI_append]
      simp only [sumSS, Nat.add_zero, lens, List.map_cons, List.map_nil, sumI, per_, Int.toNat_natCast]
      rw [cycle_home hF (by omega) (cyL_new hF hq (by omega) h).1 k]
theorem moved_shape (hF : CH n F) (hm : RangeM n F m) (k : Nat) : rkF n F k = sumI (sub_ k) (lens (chL F n m n)) + sumI (sub_ 0) (lens (cyL F n (orSS 0 (chL F n m n)) n)) := by
  unfold rkF
  rw [← sum_ways hF hm, sumSS_append, chL_moved hF hm k n (Nat.le_refl _), cyL_moved hF (chL_mask hF hm) k n (Nat.le_refl _)]
theorem home_shape (hF : CH n F) (hm : RangeM n F m) {k : Nat} (hk : 1 ≤ k) : fxF n F k = sumI (per_ k) (lens (cyL F n (orSS 0 (chL F n m n)) n)) := by
  unfold fxF
  rw [← sum_ways hF hm, sumSS_append, chL_home hF hm hk n (Nat.le_refl _), cyL_home hF (chL_mask hF hm) k n (Nat.le_refl _), Nat.zero_add]
theorem chL_lens (hF : CH n F) : ∀ b, b ≤ n → ∀ x ∈ lens (chL F n m b), 1 ≤ x ∧ x ≤ 6
  | 0, _, x, hx => by simp [chL, lens] at hx
  | b + 1, hb, x, hx => by
    have h6 := hF.six
    unfold chL at hx
    split at hx
    · exact chL_lens hF b (by omega) x hx
    · rw [lens_append] at hx
      rcases List.mem_append.1 hx with h | h
      · exact chL_lens hF b (by omega) x h
      · have := way_len hF (show b < n by omega)
        simp [lens] at h; omega
theorem cyL_lens (hF : CH n F) : ∀ b, b ≤ n → ∀ x ∈ lens (cyL F n q b), 1 ≤ x ∧ x ≤ 6
  | 0, _, x, hx => by simp [cyL, lens] at hx
  | b + 1, hb, x, hx => by
    have h6 := hF.six
    unfold cyL at hx
    split at hx
    · exact cyL_lens hF b (by omega) x hx
    · rw [lens_append] at hx
      rcases List.mem_append.1 hx with h | h
      · exact cyL_lens hF b (by omega) x h
      · have := way_len hF (show b < n by omega)
        simp [lens] at h; omega
end

/-! ### sorted lists -/
def insI (x : Int) : List Int → List Int
  | [] => [x]
  | y :: L => if x < y then x :: y :: L else y :: insI x L
def srt (L : List Int) : List Int := L.foldl (fun a x => insI x a) []
theorem insI_count (x : Int) (v : Int) : ∀ L, (insI x L).count v = L.count v + (if x = v then 1 else 0)
  | [] => by simp [insI, List.count_cons]
  | y :: L => by
    unfold insI
    by_cases h : x < y
    · rw [if_pos h]; simp only [List.count_cons, beq_iff_eq]
    · rw [if_neg h, List.count_cons, insI_count x v L, List.count_cons]; omega
theorem insI_mem (x : Int) {v : Int} {L : List Int} (h : v ∈ insI x L) : v = x ∨ v ∈ L := by
  have h1 := List.count_pos_iff.2 h
  rw [insI_count] at h1
  by_cases e : x = v
  · exact .inl e.symm
  · rw [if_neg e] at h1; exact .inr (List.count_pos_iff.1 (by omega))
theorem insI_sorted (x : Int) : ∀ {L : List Int}, L.Pairwise (· ≤ ·) → (insI x L).Pairwise (· ≤ ·)
  | [], _ => by simp [insI]
  | y :: L, h => by
    unfold insI
    rw [List.pairwise_cons] at h
    by_cases hc : x < y
    · rw [if_pos hc, List.pairwise_cons]
      refine ⟨fun z hz => ?_, List.pairwise_cons.2 h⟩
      rcases List.mem_cons.1 hz with rfl | hz
      · omega
      · have := h.1 z hz; omega
    · rw [if_neg hc, List.pairwise_cons]
      refine ⟨fun z hz => ?_, insI_sorted x h.2⟩
      rcases insI_mem x hz with rfl | hz
      · omega
      · exact h.1 z hz
theorem srt_go : ∀ (L a : List Int), a.Pairwise (· ≤ ·) → (L.foldl (fun a x => insI x a) a).Pairwise (· ≤ ·) ∧ ∀ v, (L.foldl (fun a x => insI x a) a).count v = a.count v + L.count v
  | [], a, h => ⟨h, fun v => by simp⟩
  | x :: L, a, h => by
    have ih := srt_go L (insI x a) (insI_sorted x h)
    refine ⟨ih.1, fun v => ?_⟩
    show (L.foldl (fun a x => insI x a) (insI x a)).count v = _
    rw [ih.2, insI_count, List.count_cons]; simp only [beq_iff_eq]; omega
theorem srt_sorted (L : List Int) : (srt L).Pairwise (· ≤ ·) := (srt_go L [] List.Pairwise.nil).1
theorem srt_count (L : List Int) (v : Int) : (srt L).count v = L.count v := by
  have := (srt_go L [] List.Pairwise.nil).2 v
  simpa [srt] using this
theorem sorted_ext : ∀ {L M : List Int}, L.Pairwise (· ≤ ·) → M.Pairwise (· ≤ ·) → (∀ v, L.count v = M.count v) → L = M
  | [], [], _, _, _ => rfl
  | [], y :: M, _, _, h => by have := h y; simp at this
  | x :: L, [], _, _, h => by have := h x; simp at this
  | x :: L, y :: M, hL, hM, h => by
    rw [List.pairwise_cons] at hL hM
    have hx : x ∈ y :: M := List.count_pos_iff.1 (by rw [← h x]; simp)
    have hy : y ∈ x :: L := List.count_pos_iff.1 (by rw [h y]; simp)
    have e : x = y := by
      rcases List.mem_cons.1 hx with e | hx
      · exact e
      · rcases List.mem_cons.1 hy with e | hy
        · exact e.symm
        · have := hM.1 x hx; have := hL.1 y hy; omega
    subst e
    congr 1
    refine sorted_ext hL.2 hM.2 (fun v => ?_)
    have := h v
    simp only [List.count_cons] at this
    omega
theorem srt_ext {L M : List Int} (h : ∀ v, L.count v = M.count v) : srt L = srt M := sorted_ext (srt_sorted L) (srt_sorted M) (fun v => by rw [srt_count, srt_count, h])
/-- sums over a list with entries up to 6, by counts -/
theorem sumI_count (g : Int → Nat) : ∀ (L : List Int), (∀ x ∈ L, 1 ≤ x ∧ x ≤ 6) → sumI g L = g 1 * L.count 1 + g 2 * L.count 2 + g 3 * L.count 3 + g 4 * L.count 4 + g 5 * L.count 5 + g 6 * L.count 6
  | [], _ => by simp [sumI]
  | x :: L, h => by
    have hx := h x List.mem_cons_self
    have ih := sumI_count g L (fun y hy => h y (List.mem_cons_of_mem _ hy))
    have hc : x = 1 ∨ x = 2 ∨ x = 3 ∨ x = 4 ∨ x = 5 ∨ x = 6 := by omega
    simp only [sumI, ih, List.count_cons]
    rcases hc with rfl | rfl | rfl | rfl | rfl | rfl <;> simp [Nat.mul_add] <;> omega
theorem count_out {L : List Int} (h : ∀ x ∈ L, 1 ≤ x ∧ x ≤ 6) {v : Int} (hv : ¬ (1 ≤ v ∧ v ≤ 6)) : L.count v = 0 := List.count_eq_zero.2 (fun hm => hv (h v hm))
/-- the sums tell the counts: of chains -/
theorem chains_told {L M : List Int} (hL : ∀ x ∈ L, 1 ≤ x ∧ x ≤ 6) (hM : ∀ x ∈ M, 1 ≤ x ∧ x ≤ 6) {a b : Nat} (h : ∀ k, k ≤ 7 → sumI (sub_ k) L + a = sumI (sub_ k) M + b) : srt L = srt M := by
  have h0 := h 0 (by omega); have h1 := h 1 (by omega); have h2 := h 2 (by omega); have h3 := h 3 (by omega)
  have h4 := h 4 (by omega); have h5 := h 5 (by omega); have h6 := h 6 (by omega)
  simp only [sumI_count _ L hL, sumI_count _ M hM, sub_] at h0 h1 h2 h3 h4 h5 h6
  simp at h0 h1 h2 h3 h4 h5 h6
  refine srt_ext (fun v => ?_)
  by_cases hv : 1 ≤ v ∧ v ≤ 6
  · have hc : v = 1 ∨ v = 2 ∨ v = 3 ∨ v = 4 ∨ v = 5 ∨ v = 6 := by omega
    rcases hc with rfl | rfl | rfl | rfl | rfl | rfl <;> omega
  · rw [count_out hL hv, count_out hM hv]
/-- .. of cycles -/
theorem cycles_told {L M : List Int} (hL : ∀ x ∈ L, 1 ≤ x ∧ x ≤ 6) (hM : ∀ x ∈ M, 1 ≤ x ∧ x ≤ 6) (h : ∀ k, 1 ≤ k → k ≤ 6 → sumI (per_ k) L = sumI (per_ k) M) : srt L = srt M := by
  have h1 := h 1 (by omega) (by omega); have h2 := h 2 (by omega) (by omega); have h3 := h 3 (by omega) (by omega)
  have h4 := h 4 (by omega) (by omega); have h5 := h 5 (by omega) (by omega); have h6 := h 6 (by omega) (by omega)
  simp only [sumI_count _ L hL, sumI_count _ M hM, per_] at h1 h2 h3 h4 h5 h6
  simp at h1 h2 h3 h4 h5 h6
  refine srt_ext (fun v => ?_)
  by_cases hv : 1 ≤ v ∧ v ≤ 6
  · have hc : v = 1 ∨ v = 2 ∨ v = 3 ∨ v = 4 ∨ v = 5 ∨ v = 6 := by omega
    rcases hc with rfl | rfl | rfl | rfl | rfl | rfl <;> omega
  · rw [count_out hL hv, count_out hM hv]
theorem told_sum {L M : List Int} (hL : ∀ x ∈ L, 1 ≤ x ∧ x ≤ 6) (hM : ∀ x ∈ M, 1 ≤ x ∧ x ≤ 6) (h : srt L = srt M) (g : Int → Nat) : sumI g L = sumI g M := by
  have hc : ∀ v, L.count v = M.count v := fun v => by rw [← srt_count L, ← srt_count M, h]
  rw [sumI_count g L hL, sumI_count g M hM]
  simp only [hc]

/-- the shape: chains' lengths, cycles' lengths -/
def shC (n : Nat) (F : Nat → Int) (m : Nat) : List Int := srt (lens (chL F n m n))
def shY (n : Nat) (F : Nat → Int) (m : Nat) : List Int := srt (lens (cyL F n (orSS 0 (chL F n m n)) n))
theorem shape_of {n : Nat} {F G : Nat → Int} {m m' : Nat} (hF : CH n F) (hG : CH n G) (hm : RangeM n F m) (hm' : RangeM n G m') (hr : ∀ k, rkF n F k = rkF n G k) (hx : ∀ k, 1 ≤ k → fxF n F k = fxF n G k) :
    shC n F m = shC n G m' ∧ shY n F m = shY n G m' :=
  ⟨chains_told (chL_lens hF n (Nat.le_refl _)) (chL_lens hG n (Nat.le_refl _)) (fun k _ => by have := hr k; rw [moved_shape hF hm, moved_shape hG hm'] at this; exact this),
   cycles_told (cyL_lens hF n (Nat.le_refl _)) (cyL_lens hG n (Nat.le_refl _)) (fun k h1 _ => by have := hx k h1; rw [home_shape hF hm h1, home_shape hG hm' h1] at this; exact this)⟩
theorem of_shape {n : Nat} {F G : Nat → Int} {m m' : Nat} (hF : CH n F) (hG : CH n G) (hm : RangeM n F m) (hm' : RangeM n G m') (h : shC n F m = shC n G m') (h' : shY n F m = shY n G m') :
    (∀ k, rkF n F k = rkF n G k) ∧ ∀ k, 1 ≤ k → fxF n F k = fxF n G k :=
  ⟨fun k => by rw [moved_shape hF hm, moved_shape hG hm', told_sum (chL_lens hF n (Nat.le_refl _)) (chL_lens hG n (Nat.le_refl _)) h, told_sum (cyL_lens hF n (Nat.le_refl _)) (cyL_lens hG n (Nat.le_refl _)) h'],
   fun k hk => by rw [home_shape hF hm hk, home_shape hG hm' hk, told_sum (cyL_lens hF n (Nat.le_refl _)) (cyL_lens hG n (Nat.le_refl _)) h']⟩
end

/-! Shapes stay when a chart is turned and when it is moved to another place; index and period come of them; no program. -/
section
theorem sumP_cnt (P : Nat → Bool) : ∀ k, sumP (fun j => if P j = true then 1 else 0) k = cnt P k
  | 0 => rfl
  | k + 1 => by
    rw [cnt_succ]; simp only [sumP]; rw [sumP_cnt P k]
    cases P k <;> simp
theorem rk_cnt (n : Nat) (F : Nat → Int) (k : Nat) : rkF n F k = cnt (fun j => decide (0 ≤ itF F j k)) n := by
  unfold rkF; rw [← sumP_cnt]; exact sumP_congr (fun j _ => by simp)
theorem fx_cnt (n : Nat) (F : Nat → Int) (k : Nat) : fxF n F k = cnt (fun j => decide (itF F j k = (j : Int))) n := by
  unfold fxF; rw [← sumP_cnt]; exact sumP_congr (fun j _ => by simp)
theorem cnt_all {P : Nat → Bool} : ∀ {k : Nat}, cnt P k = k → ∀ j, j < k → P j = true
  | 0, _, j, hj => by omega
  | k + 1, h, j, hj => by
    have hle : ∀ m, cnt P m ≤ m := fun m => by
      induction m with
      | zero => exact Nat.le_refl _
      | succ m ih => rw [cnt_succ]; cases P m <;> simp <;> omega
    have := hle k
    rw [cnt_succ] at h
    cases e : P k
    · rw [e] at h; simp at h; omega
    · rw [e] at h; simp at h
      by_cases hjk : j = k
      · subst hjk; exact e
      · exact cnt_all h j (by omega)
theorem cnt_eq {P Q : Nat → Bool} : ∀ {k : Nat}, (∀ j, j < k → P j = true → Q j = true) → cnt P k = cnt Q k → ∀ j, j < k → Q j = true → P j = true
  | 0, _, _, j, hj, _ => by omega
  | k + 1, h, he, j, hj, hq => by
    have hm := cnt_mono (P := P) (Q := Q) (k := k) (fun j hj => h j (by omega))
    rw [cnt_succ, cnt_succ] at he
    have hk := h k (by omega)
    have hp : P k = Q k ∧ cnt P k = cnt Q k := by
      cases e : P k <;> cases e' : Q k <;> simp [e, e'] at he hk ⊢ <;> omega
    by_cases hjk : j = k
    · subst hjk; rw [hp.1]; exact hq
    · exact cnt_eq (fun j hj => h j (by omega)) hp.2 j (by omega) hq

section
variable {n : Nat} {F G S : Nat → Int} {s j : Nat}
theorem it_congr (hF : CH n F) (h : ∀ j, j < n → F j = G j) (hs : s < n) : ∀ k, itF F s k = itF G s k
  | 0 => rfl
  | k + 1 => by
    rw [itF_succ, itF_succ, ← it_congr hF h hs k]
    by_cases hc : 0 ≤ itF F s k
    · have := (itF_en hF.en hs k).resolve_left (by omega)
      rw [if_pos hc, if_pos hc, h _ (by omega)]
    · rw [if_neg hc, if_neg hc]
theorem rk_congr (hF : CH n F) (h : ∀ j, j < n → F j = G j) (k : Nat) : rkF n F k = rkF n G k := sumP_congr (fun j hj => by rw [it_congr hF h hj])
theorem fx_congr (hF : CH n F) (h : ∀ j, j < n → F j = G j) (k : Nat) : fxF n F k = fxF n G k := sumP_congr (fun j hj => by rw [it_congr hF h hj])
theorem rk_turn_le (hF : CH n F) (k : Nat) : rkF n (trn n F) k ≤ rkF n F k := by
  have hT := CH_trn hF
  rw [rk_cnt, rk_cnt]
  refine cnt_inj (f := fun j => (itF (trn n F) j k).toNat) (fun j hj hp => ?_) (fun i j hi hj hp hq e => ?_)
  · have hp := of_decide_eq_true hp
    have := (itF_en hT.en hj k).resolve_left (by omega)
    refine ⟨by show (itF (trn n F) j k).toNat < n; omega, decide_eq_true ?_⟩
    rw [it_turn hF hj k hp]; omega
  · have hp := of_decide_eq_true hp
    have hq := of_decide_eq_true hq
    have a := it_turn hF hi k hp
    have b := it_turn hF hj k hq
    have e : (itF (trn n F) i k).toNat = (itF (trn n F) j k).toNat := e
    rw [e, b] at a; omega
theorem rk_turn (hF : CH n F) (k : Nat) : rkF n (trn n F) k = rkF n F k := by
  have h1 := rk_turn_le hF k
  have h2 := rk_turn_le (CH_trn hF) k
  rw [rk_congr (CH_trn (CH_trn hF)) (trn_trn hF)] at h2
  omega
theorem fx_turn (hF : CH n F) (k : Nat) : fxF n (trn n F) k = fxF n F k := by
  have one : ∀ {A : Nat → Int}, CH n A → ∀ j, j < n → itF (trn n A) j k = (j : Int) → itF A j k = (j : Int) := fun {A} hA j hj e => by
    have := it_turn hA hj k (by omega)
    rw [e, Int.toNat_natCast] at this; exact this
  refine sumP_congr (fun j hj => ?_)
  by_cases h : itF F j k = (j : Int)
  · rw [if_pos h, if_pos]
    refine one (CH_trn hF) j hj ?_
    rw [it_congr (CH_trn (CH_trn hF)) (trn_trn hF) hj]; exact h
  · rw [if_neg h, if_neg (fun h' => h (one hF j hj h'))]

/-! ### moved to another place -/
def cjF (n : Nat) (S G : Nat → Int) : Nat → Int := cmp n (cmp n (trn n S) G) S
theorem cj_at (hS : CH n S) (hG : CH n G) (hf : ∀ j, j < n → S j ≠ -1) (hj : j < n) : cjF n S G (S j).toNat = if 0 ≤ G j then S (G j).toNat else -1 := by
  have h1 := (hS.en j hj).resolve_left (hf j hj)
  obtain ⟨y, hy⟩ := Int.eq_ofNat_of_zero_le h1.1
  have hyn : y < n := by omega
  have h2 : trn n S y = (j : Int) := (trn_iff hS hj hyn).2 hy
  rw [hy, Int.toNat_natCast]
  unfold cjF cmp
  rw [h2, Int.toNat_natCast, if_pos (show 0 ≤ (j : Int) ∧ (j : Int) < n by omega)]
  rcases hG.en j hj with h3 | h3
  · rw [h3]; rfl
  · rw [if_pos h3, if_pos h3.1]
theorem cj_it (hS : CH n S) (hG : CH n G) (hf : ∀ j, j < n → S j ≠ -1) (hj : j < n) : ∀ k, itF (cjF n S G) (S j).toNat k = if 0 ≤ itF G j k then S (itF G j k).toNat else -1
  | 0 => by
    have h1 := (hS.en j hj).resolve_left (hf j hj)
    rw [if_pos (show (0 : Int) ≤ itF G j 0 by simp [itF])]
    show (((S j).toNat : Nat) : Int) = S ((j : Int)).toNat
    rw [Int.toNat_natCast]; omega
  | k + 1 => by
    rw [itF_succ, cj_it hS hG hf hj k]
    by_cases hc : 0 ≤ itF G j k
    · have h2 := (itF_en hG.en hj k).resolve_left (by omega)
      have hlt : (itF G j k).toNat < n := by omega
      have h1 := (hS.en _ hlt).resolve_left (hf _ hlt)
      rw [if_pos hc, if_pos h1.1, cj_at hS hG hf hlt, itF_succ, if_pos hc]
    · rw [if_neg hc, if_neg (by omega), itF_succ, if_neg hc, if_neg (by omega)]
theorem full_trn (hS : CH n S) (hf : ∀ j, j < n → S j ≠ -1) : ∀ j, j < n → trn n S j ≠ -1 := fun j hj => by
  have h := cnt_trn hS
  have h1 : cnt (fun j => decide (S j ≠ -1)) n = n := by
    rw [cnt_congr (Q := fun _ => true) (fun j hj => decide_eq_true (hf j hj))]
    have hc : ∀ m, cnt (fun _ => true) m = m := fun m => by
      induction m with
      | zero => rfl
      | succ m ih => rw [cnt_succ, ih]; rfl
    exact hc n
  exact of_decide_eq_true (cnt_all (h.trans h1) j hj)
theorem full_at (hS : CH n S) (hf : ∀ j, j < n → S j ≠ -1) {i : Nat} (hi : i < n) : ∃ j, j < n ∧ S j = (i : Int) := by
  have h := ((CH_trn hS).en i hi).resolve_left (full_trn hS hf i hi)
  obtain ⟨y, hy⟩ := Int.eq_ofNat_of_zero_le h.1
  exact ⟨y, by omega, (trn_iff hS (by omega) hi).1 hy⟩
/-- a count over places told by a full chart -/
theorem cnt_full (hS : CH n S) (hf : ∀ j, j < n → S j ≠ -1) {P Q : Nat → Bool} (h : ∀ j, j < n → (P j = true ↔ Q (S j).toNat = true)) : cnt P n = cnt Q n := by
  refine Nat.le_antisymm (cnt_inj (f := fun j => (S j).toNat) (fun j hj hp => ?_) (fun i j hi hj _ _ e => ?_)) (cnt_inj (f := fun j => (trn n S j).toNat) (fun i hi hq => ?_) (fun i j hi hj _ _ e => ?_))
  · have h1 := (hS.en j hj).resolve_left (hf j hj)
    exact ⟨by show (S j).toNat < n; omega, (h j hj).1 hp⟩
  · have h1 := (hS.en i hi).resolve_left (hf i hi)
    have h2 := (hS.en j hj).resolve_left (hf j hj)
    have e : (S i).toNat = (S j).toNat := e
    exact hS.inj i j hi hj (hf i hi) (by omega)
  · obtain ⟨j, hj, e⟩ := full_at hS hf hi
    have h2 : trn n S i = (j : Int) := (trn_iff hS hj hi).2 e
    refine ⟨by show (trn n S i).toNat < n; rw [h2]; omega, ?_⟩
    show P (trn n S i).toNat = true
    rw [h2, Int.toNat_natCast, h j hj, e, Int.toNat_natCast]; exact hq
  · obtain ⟨a, ha, ea⟩ := full_at hS hf hi
    obtain ⟨b, hb, eb⟩ := full_at hS hf hj
    have h2 : trn n S i = (a : Int) := (trn_iff hS ha hi).2 ea
    have h3 : trn n S j = (b : Int) := (trn_iff hS hb hj).2 eb
    have e : (trn n S i).toNat = (trn n S j).toNat := e
    rw [h2, h3] at e
    have : a = b := by omega
    subst this; omega
theorem rk_cj (hS : CH n S) (hG : CH n G) (hf : ∀ j, j < n → S j ≠ -1) (k : Nat) : rkF n G k = rkF n (cjF n S G) k := by
  rw [rk_cnt, rk_cnt]
  refine cnt_full hS hf (fun j hj => ?_)
  simp only [decide_eq_true_eq]
  rw [cj_it hS hG hf hj k]
  by_cases hc : 0 ≤ itF G j k
  · have h2 := (itF_en hG.en hj k).resolve_left (by omega)
    have hlt : (itF G j k).toNat < n := by omega
    have h1 := (hS.en _ hlt).resolve_left (hf _ hlt)
    rw [if_pos hc]; exact ⟨fun _ => h1.1, fun _ => hc⟩
  · rw [if_neg hc]; exact ⟨fun h => absurd h hc, fun h => by omega⟩
theorem fx_cj (hS : CH n S) (hG : CH n G) (hf : ∀ j, j < n → S j ≠ -1) (k : Nat) : fxF n G k = fxF n (cjF n S G) k := by
  rw [fx_cnt, fx_cnt]
  refine cnt_full hS hf (fun j hj => ?_)
  simp only [decide_eq_true_eq]
  rw [cj_it hS hG hf hj k]
  have h0 := (hS.en j hj).resolve_left (hf j hj)
  by_cases hc : 0 ≤ itF G j k
  · have h2 := (itF_en hG.en hj k).resolve_left (by omega)
    have hlt : (itF G j k).toNat < n := by omega
    have h1 := (hS.en _ hlt).resolve_left (hf _ hlt)
    rw [if_pos hc]
    constructor
    · intro e; rw [e, Int.toNat_natCast]; omega
    · intro e
      have := hS.inj (itF G j k).toNat j hlt hj (hf _ hlt) (by omega)
      omega
  · rw [if_neg hc]; constructor <;> intro e <;> omega

/-! ### index and period -/
/-- the least number from k on, within d, that P holds for -/
def lst (P : Nat → Bool) : Nat → Nat → Nat
  | 0, k => k
  | d + 1, k => if P k = true then k else lst P d (k + 1)
theorem lst_spec {P : Nat → Bool} : ∀ d k, (∃ i, k ≤ i ∧ i < k + d ∧ P i = true) → P (lst P d k) = true ∧ k ≤ lst P d k ∧ lst P d k < k + d ∧ ∀ i, k ≤ i → i < lst P d k → P i = false
  | 0, k, ⟨i, h1, h2, _⟩ => by omega
  | d + 1, k, ⟨i, h1, h2, h3⟩ => by
    unfold lst
    by_cases hc : P k = true
    · rw [if_pos hc]; exact ⟨hc, Nat.le_refl _, by omega, fun i h1 h2 => by omega⟩
    · rw [if_neg hc]
      have hik : i ≠ k := fun e => hc (e ▸ h3)
      have ih := lst_spec d (k + 1) ⟨i, by omega, by omega, h3⟩
      refine ⟨ih.1, by omega, by omega, fun a h4 h5 => ?_⟩
      by_cases e : a = k
      · subst e; simpa using hc
      · exact ih.2.2.2 a (by omega) h5
theorem lst_congr {P Q : Nat → Bool} (h : ∀ i, P i = Q i) (d k : Nat) : lst P d k = lst Q d k := by rw [show P = Q from funext h]
theorem lst_is {P : Nat → Bool} {d k a : Nat} (h1 : k ≤ a) (h2 : a < k + d) (h3 : P a = true) (h4 : ∀ i, k ≤ i → i < a → P i = false) : lst P d k = a := by
  have hs := lst_spec (P := P) d k ⟨a, h1, h2, h3⟩
  rcases Nat.lt_trichotomy (lst P d k) a with h | h | h
  · rw [h4 _ hs.2.1 h] at hs; exact absurd hs.1 (by simp)
  · exact h
  · rw [hs.2.2.2 a h1 h] at h3; cases h3
def idxF (n : Nat) (F : Nat → Int) : Nat := lst (fun k => decide (rkF n F k = rkF n F (k + 1))) 8 0
def perF (n : Nat) (F : Nat → Int) : Nat := lst (fun p => decide (fxF n F p = rkF n F (idxF n F))) 61 1
theorem rk_mono (k : Nat) : rkF n F (k + 1) ≤ rkF n F k := by
  rw [rk_cnt, rk_cnt]
  exact cnt_mono (fun j _ h => decide_eq_true (itF_down k 1 (of_decide_eq_true h)))
theorem cnt_le (P : Nat → Bool) : ∀ m, cnt P m ≤ m
  | 0 => Nat.le_refl _
  | m + 1 => by have := cnt_le P m; rw [cnt_succ]; cases P m <;> simp <;> omega
theorem idx_ex (hF : CH n F) : ∃ i, 0 ≤ i ∧ i < 0 + 8 ∧ decide (rkF n F i = rkF n F (i + 1)) = true := by
  apply Classical.byContradiction
  intro hno
  have h : ∀ i, i < 8 → rkF n F (i + 1) + 1 ≤ rkF n F i := fun i hi => by
    have := rk_mono (n := n) (F := F) i
    by_cases e : rkF n F i = rkF n F (i + 1)
    · exact absurd ⟨i, by omega, by omega, decide_eq_true e⟩ hno
    · omega
  have h0 : rkF n F 0 ≤ n := by rw [rk_cnt]; exact cnt_le _ _
  have h6 := hF.six
  have a0 : rkF n F 1 + 1 ≤ rkF n F 0 := h 0 (by omega)
  have a1 : rkF n F 2 + 1 ≤ rkF n F 1 := h 1 (by omega)
  have a2 : rkF n F 3 + 1 ≤ rkF n F 2 := h 2 (by omega)
  have a3 : rkF n F 4 + 1 ≤ rkF n F 3 := h 3 (by omega)
  have a4 : rkF n F 5 + 1 ≤ rkF n F 4 := h 4 (by omega)
  have a5 : rkF n F 6 + 1 ≤ rkF n F 5 := h 5 (by omega)
  have a6 : rkF n F 7 + 1 ≤ rkF n F 6 := h 6 (by omega)
  omega
theorem idx_spec (hF : CH n F) : rkF n F (idxF n F) = rkF n F (idxF n F + 1) ∧ idxF n F ≤ n ∧ ∀ i, i < idxF n F → rkF n F i ≠ rkF n F (i + 1) := by
  have h := lst_spec 8 0 (idx_ex hF)
  have hmin : ∀ i, i < idxF n F → rkF n F i ≠ rkF n F (i + 1) := fun i hi => of_decide_eq_false (h.2.2.2 i (by omega) hi)
  refine ⟨of_decide_eq_true h.1, ?_, hmin⟩
  have hle : ∀ k, k ≤ idxF n F → rkF n F k + k ≤ n := fun k => by
    induction k with
    | zero => intro _; have : rkF n F 0 ≤ n := by rw [rk_cnt]; exact cnt_le _ _
              omega
    | succ k ih => intro hk; have := ih (by omega); have := hmin k (by omega); have := rk_mono (n := n) (F := F) k; omega
  have := hle _ (Nat.le_refl _)
  omega
/-- at an index: what is moved so often comes back -/
theorem idx_cyc (hF : CH n F) {k : Nat} (hk : rkF n F k = rkF n F (k + 1)) (hj : j < n) : 0 ≤ itF F j k ↔ Cyc F j := by
  constructor
  · intro h
    have hst : ∀ i, i < n → pwF n F k i ≠ -1 → pwF n F (k + 1) i ≠ -1 := fun i hi he => by
      rw [rk_cnt, rk_cnt] at hk
      have := cnt_eq (P := fun j => decide (0 ≤ itF F j (k + 1))) (Q := fun j => decide (0 ≤ itF F j k)) (fun j _ h => decide_eq_true (itF_down k 1 (of_decide_eq_true h))) hk.symm i hi
        (decide_eq_true (by rw [pw_it hF hi] at he; exact ((itF_en hF.en hi k).resolve_left he).1))
      have := of_decide_eq_true this
      rw [pw_it hF hi]; omega
    have h1 := stable hF hst n j hj (by rw [pw_it hF hj]; omega)
    rw [pw_it hF hj] at h1
    have h2 := ((itF_en hF.en hj (k + n)).resolve_left h1).1
    rw [Nat.add_comm] at h2
    have h3 := itF_down n k h2
    obtain ⟨p, h4, _, h5⟩ := it_cycle hF hj h3
    exact ⟨p, h4, h5⟩
  · intro h; exact h.pos k
theorem pow_back (hF : CH n F) {k p : Nat} (hk : rkF n F k = rkF n F (k + 1)) (hp : 1 ≤ p) : (∀ j, j < n → pwF n F (k + p) j = pwF n F k j) ↔ fxF n F p = rkF n F k := by
  have hsub : ∀ j, j < n → decide (itF F j p = (j : Int)) = true → decide (0 ≤ itF F j k) = true := fun j hj h => decide_eq_true ((idx_cyc hF hk hj).2 ⟨p, hp, of_decide_eq_true h⟩)
  rw [fx_cnt, rk_cnt]
  constructor
  · intro h
    refine cnt_congr (fun j hj => ?_)
    by_cases hc : 0 ≤ itF F j k
    · rw [decide_eq_true hc]
      refine decide_eq_true (itF_back hF hj k p ?_ ?_)
      · have := h j hj; rw [pw_it hF hj, pw_it hF hj] at this; omega
      · have := h j hj; rw [pw_it hF hj, pw_it hF hj] at this; exact this.symm
    · rw [decide_eq_false hc]
      cases e : decide (itF F j p = (j : Int)) with
      | false => rfl
      | true => exact absurd (of_decide_eq_true (hsub j hj e)) hc
  · intro h j hj
    rw [pw_it hF hj, pw_it hF hj]
    by_cases hc : 0 ≤ itF F j k
    · have := of_decide_eq_true (cnt_eq hsub h j hj (decide_eq_true hc))
      rw [Nat.add_comm, it_via this]
    · have h1 := (itF_en hF.en hj k).resolve_right (fun h => hc h.1)
      rw [h1]
      exact (itF_en hF.en hj (k + p)).resolve_right (fun h => hc (itF_down k p h.1))
theorem per_ex (hF : CH n F) : ∃ p, 1 ≤ p ∧ p < 1 + 61 ∧ decide (fxF n F p = rkF n F (idxF n F)) = true := by
  have hk := (idx_spec hF).1
  refine ⟨60, by omega, by omega, decide_eq_true ((pow_back hF hk (by omega)).1 fun j hj => ?_)⟩
  refine pw_period hF (fun i hi he => ?_) j hj
  rw [pw_it hF hi] at he ⊢
  have := (idx_cyc hF hk hi).1 ((itF_en hF.en hi _).resolve_left he).1
  have := this.pos (idxF n F + 1); omega
theorem per_spec (hF : CH n F) : 1 ≤ perF n F ∧ perF n F ≤ 60 ∧ (∀ j, j < n → pwF n F (idxF n F + perF n F) j = pwF n F (idxF n F) j) ∧ ∀ p, 1 ≤ p → p < perF n F → ¬ ∀ j, j < n → pwF n F (idxF n F + p) j = pwF n F (idxF n F) j := by
  have hk := (idx_spec hF).1
  have h := lst_spec 61 1 (per_ex hF)
  refine ⟨h.2.1, ?_, (pow_back hF hk h.2.1).2 (of_decide_eq_true h.1), fun p h1 h2 => ?_⟩
  · have h60 : fxF n F 60 = rkF n F (idxF n F) := by
      refine (pow_back hF hk (by omega)).1 fun j hj => pw_period hF (fun i hi he => ?_) j hj
      rw [pw_it hF hi] at he ⊢
      have := (idx_cyc hF hk hi).1 ((itF_en hF.en hi _).resolve_left he).1
      have := this.pos (idxF n F + 1); omega
    apply Classical.byContradiction
    intro hgt
    have := of_decide_eq_false (h.2.2.2 60 (by omega) (by unfold perF at hgt; omega))
    exact this h60
  · rw [pow_back hF hk h1]
    exact of_decide_eq_false (h.2.2.2 p h1 h2)
theorem idx_zero (hF : CH n F) : idxF n F = 0 ↔ rkF n F 1 = n := by
  have h := idx_spec hF
  have h0 : rkF n F 0 = n := by
    rw [rk_cnt, cnt_congr (Q := fun _ => true) (fun j _ => decide_eq_true (by simp [itF]))]
    have hc : ∀ m, cnt (fun _ => true) m = m := fun m => by
      induction m with
      | zero => rfl
      | succ m ih => rw [cnt_succ, ih]; rfl
    exact hc n
  constructor
  · intro e; rw [e] at h; rw [← h.1, h0]
  · intro e
    apply Classical.byContradiction
    intro hne
    exact h.2.2 0 (by omega) (by rw [h0, e])
theorem idx_shape (hr : ∀ k, rkF n F k = rkF n G k) : idxF n F = idxF n G := lst_congr (fun k => by rw [hr, hr]) 8 0
theorem per_shape (hr : ∀ k, rkF n F k = rkF n G k) (hx : ∀ k, 1 ≤ k → fxF n F k = fxF n G k) : perF n F = perF n G := by
  unfold perF
  rw [idx_shape hr, hr]
  generalize rkF n G (idxF n G) = c
  have : ∀ d k, 1 ≤ k → lst (fun p => decide (fxF n F p = c)) d k = lst (fun p => decide (fxF n G p = c)) d k := fun d => by
    induction d with
    | zero => intro k _; rfl
    | succ d ih => intro k hk; unfold lst; rw [ih (k + 1) (by omega), hx k hk]
  exact this 61 1 (Nat.le_refl _)
/-- the rank of a power -/
theorem rk_pw (hF : CH n F) (k : Nat) : popK (domL (mv (pwF n F k) n)) 6 = rkF n F k := by
  have hp := CH_pw hF k
  rw [cnt_dom hF.six hp.en, rk_cnt]
  refine cnt_congr (fun j hj => ?_)
  rw [pw_it hF hj]
  rcases itF_en hF.en hj k with h | h
  · rw [h]; simp
  · rw [decide_eq_true (show itF F j k ≠ -1 by omega), decide_eq_true h.1]
end
end

/-! The chart of some ways: what it is, and that a chart's own ways lead back to it; no program. -/
section
def upI (T : Nat → Int) (y z : Int) (j : Nat) : Int := if (j : Int) = y then z else T j
/-- each of a list is a point, none met before -/
def okL (n m : Nat) : List Int → Bool
  | [] => true
  | z :: L => decide (0 ≤ z ∧ z < n ∧ m.testBit z.toNat = false) && okL n (m ||| 1 <<< z.toNat) L
def okSS (n m : Nat) : List (List Int) → Bool
  | [] => true
  | L :: Ls => decide (L ≠ []) && okL n m L && okSS n (orL m L) Ls
/-- each point of a list leads to the next one -/
def lnk (T : Nat → Int) : List Int → Nat → Int
  | [] => T
  | [_] => T
  | y :: z :: L => lnk (upI T y z) (z :: L)
def lastI (L : List Int) : Int := L.getLast?.getD 0
def headI (L : List Int) : Int := L.head?.getD 0
def cls (T : Nat → Int) (L : List Int) : Nat → Int := upI (lnk T L) (lastI L) (headI L)
/-- the first c lists are chains, the others cycles -/
def lnSS : Nat → (Nat → Int) → List (List Int) → Nat → Int
  | _, T, [] => T
  | 0, T, L :: Ls => lnSS 0 (cls T L) Ls
  | c + 1, T, L :: Ls => lnSS c (lnk T L) Ls
def wcB (n : Int) (Cs Ys : List (List Int)) : Bool := inB n 1 6 && okSS n.toNat 0 (Cs ++ Ys) && decide (orSS 0 (Cs ++ Ys) = 2 ^ n.toNat - 1)
def wcL (n : Int) (Cs Ys : List (List Int)) : List Int := if wcB n Cs Ys = true then LT n.toNat (lnSS Cs.length (fun _ => -1) (Cs ++ Ys)) else []

theorem okL_snoc (n : Nat) (z : Int) : ∀ (L : List Int) (m : Nat), okL n m (L ++ [z]) = (okL n m L && decide (0 ≤ z ∧ z < n ∧ (orL m L).testBit z.toNat = false))
  | [], m => by simp only [List.nil_append, okL, orL, List.foldl_nil, Bool.and_true, Bool.true_and]; rfl
  | y :: L, m => by simp only [List.cons_append, okL, okL_snoc n z L, Bool.and_assoc]; rfl
theorem okSS_snoc (n : Nat) (M : List Int) : ∀ (Ls : List (List Int)) (m : Nat), okSS n m (Ls ++ [M]) = (okSS n m Ls && (decide (M ≠ []) && okL n (orSS m Ls) M))
  | [], m => by simp [okSS, orSS]
  | L :: Ls, m => by simp only [List.cons_append, okSS, okSS_snoc n M Ls, Bool.and_assoc]; rfl
theorem lnk_snoc (z : Int) : ∀ (L : List Int) (T : Nat → Int), L ≠ [] → lnk T (L ++ [z]) = upI (lnk T L) (lastI L) z
  | [], T, h => absurd rfl h
  | [y], T, _ => by simp [lnk, lastI]
  | x :: y :: L, T, _ => by
    have ih := lnk_snoc z (y :: L) (upI T x y) (by simp)
    show lnk (upI T x y) ((y :: L) ++ [z]) = _
    rw [ih]
    have : lastI (x :: y :: L) = lastI (y :: L) := by simp [lastI]
    rw [this]; rfl
theorem lnSS_snoc (M : List Int) : ∀ (Ls : List (List Int)) (c : Nat) (T : Nat → Int), lnSS c T (Ls ++ [M]) = if Ls.length < c then lnk (lnSS c T Ls) M else cls (lnSS c T Ls) M
  | [], 0, T => by simp [lnSS]
  | [], c + 1, T => by simp [lnSS]
  | L :: Ls, 0, T => by simp only [List.cons_append, lnSS]; rw [lnSS_snoc M Ls 0]; simp
  | L :: Ls, c + 1, T => by simp only [List.cons_append, lnSS]; rw [lnSS_snoc M Ls c]; simp [Nat.add_lt_add_iff_right]
theorem okL_of (n : Nat) : ∀ (L : List Int) (m : Nat), (∀ z ∈ L, 0 ≤ z ∧ z < n) → (∀ j, (m.testBit j).toNat + L.count (j : Int) ≤ 1) → okL n m L = true
  | [], m, _, _ => rfl
  | z :: L, m, h, hc => by
    have hz := h z List.mem_cons_self
    obtain ⟨y, rfl⟩ := Int.eq_ofNat_of_zero_le hz.1
    have hy := hc y
    simp only [List.count_cons_self] at hy
    have hb : m.testBit y = false := by
      cases e : m.testBit y with
      | false => rfl
      | true => rw [e] at hy; exact absurd hy (by show ¬ (1 + _ ≤ 1); omega)
    unfold okL
    rw [decide_eq_true ⟨hz.1, hz.2, by rw [Int.toNat_natCast]; exact hb⟩, Bool.true_and]
    refine okL_of n L _ (fun x hx => h x (List.mem_cons_of_mem _ hx)) (fun j => ?_)
    have hj := hc j
    rw [Int.toNat_natCast, Nat.testBit_or, Nat.one_shiftLeft, Nat.testBit_two_pow]
    simp only [List.count_cons, beq_iff_eq] at hj
    by_cases e : y = j
    · subst e
      simp at hj ⊢; omega
    · rw [if_neg (by omega)] at hj
      simpa [e] using hj
theorem okSS_of (n : Nat) : ∀ (Ls : List (List Int)) (m : Nat), (∀ L ∈ Ls, L ≠ [] ∧ ∀ z ∈ L, 0 ≤ z ∧ z < n) → (∀ j : Nat, (m.testBit j).toNat + occ Ls (j : Int) ≤ 1) → okSS n m Ls = true
  | [], m, _, _ => rfl
  | L :: Ls, m, h, hc => by
    have hL := h L List.mem_cons_self
    unfold okSS
    rw [decide_eq_true hL.1, okL_of n L m hL.2 (fun j => by have := hc j; simp only [occ] at this; omega)]
    simp only [Bool.true_and]
    refine okSS_of n Ls _ (fun M hM => h M (List.mem_cons_of_mem _ hM)) (fun j => ?_)
    have hj := hc j
    simp only [occ] at hj
    have hb := orL_bit (j := j) L m (fun z hz => (hL.2 z hz).1)
    by_cases e : (orL m L).testBit j = true
    · rcases hb.1 e with h1 | h1
      · rw [h1] at hj; rw [e]; simp at hj ⊢; omega
      · have := List.count_pos_iff.2 h1; rw [e]; simp; omega
    · have e' : (orL m L).testBit j = false := by simpa using e
      rw [e']; simp; omega

section
variable {n : Nat} {F T : Nat → Int} {s : Nat}
/-- each in a list leads to the next one -/
def Adj (F : Nat → Int) : List Int → Prop
  | [] => True
  | [_] => True
  | y :: z :: L => 0 ≤ y ∧ F y.toNat = z ∧ Adj F (z :: L)
theorem upI_good {y z : Int} (h0 : 0 ≤ y) (h : F y.toNat = z) (hT : ∀ j : Nat, T j = F j ∨ T j = -1) : ∀ j : Nat, (upI T y z j = F j ∨ upI T y z j = -1) ∧ (T j = F j → upI T y z j = F j) ∧ ((j : Int) = y → upI T y z j = F j) := fun j => by
  unfold upI
  by_cases e : (j : Int) = y
  · rw [if_pos e]
    have : y.toNat = j := by omega
    rw [this] at h
    exact ⟨.inl h.symm, fun _ => h.symm, fun _ => h.symm⟩
  · rw [if_neg e]; exact ⟨hT j, fun h => h, fun h => absurd h e⟩
theorem lnk_good : ∀ (L : List Int) (T : Nat → Int), Adj F L → (∀ j : Nat, T j = F j ∨ T j = -1) → ∀ j : Nat, (lnk T L j = F j ∨ lnk T L j = -1) ∧ (T j = F j → lnk T L j = F j) ∧ ((j : Int) ∈ L → (j : Int) ≠ lastI L → lnk T L j = F j)
  | [], T, _, hT, j => ⟨hT j, fun h => h, fun h => by simp at h⟩
  | [y], T, _, hT, j => ⟨hT j, fun h => h, fun h hne => by simp [lastI] at h hne; exact absurd h hne⟩
  | y :: z :: L, T, ha, hT, j => by
    have hu := upI_good ha.1 ha.2.1 hT
    have ih := lnk_good (z :: L) (upI T y z) ha.2.2 (fun j => (hu j).1) j
    have hl : lastI (y :: z :: L) = lastI (z :: L) := by simp [lastI]
    refine ⟨ih.1, fun h => ih.2.1 ((hu j).2.1 h), fun hm hne => ?_⟩
    rw [hl] at hne
    rcases List.mem_cons.1 hm with e | hm
    · exact ih.2.1 ((hu j).2.2 e)
    · exact ih.2.2 hm hne
theorem adj_LT : ∀ m, 0 ≤ itF F s m → Adj F (LT (m + 1) (itF F s)) := by
  have gen : ∀ d a, 0 ≤ itF F s (a + d) → Adj F ((List.range' a (d + 1)).map (itF F s)) := fun d => by
    induction d with
    | zero => intro a _; simp [List.range', Adj]
    | succ d ih =>
      intro a h
      rw [List.range'_succ, List.map_cons]
      have h1 : 0 ≤ itF F s a := itF_down a (d + 1) h
      have ih' := ih (a + 1) (by rw [show a + 1 + d = a + (d + 1) by omega]; exact h)
      rw [List.range'_succ, List.map_cons] at ih' ⊢
      exact ⟨h1, by rw [itF_succ, if_pos h1], ih'⟩
  intro m h
  have := gen m 0 (by rw [Nat.zero_add]; exact h)
  unfold LT
  rw [List.range_eq_range']; exact this
theorem last_LT (m : Nat) : lastI (LT (m + 1) T) = T m := by rw [LT_succ]; simp [lastI]
theorem head_LT (m : Nat) : headI (LT (m + 1) T) = T 0 := by unfold LT headI; rw [List.range_succ_eq_map]; simp
theorem chain_end (hF : CH n F) (hs : s < n) (hn : NR n F s) : Adj F (wayL F n s) ∧ 0 ≤ lastI (wayL F n s) ∧ F (lastI (wayL F n s)).toNat = -1 := by
  obtain ⟨e, h1, h2, h3, h4, h5⟩ := way_spec hF hs
  have h6 : itF F s (e + 1) = -1 := h5.resolve_right (fun h => hn.noCyc hF hs ⟨e + 1, by omega, h⟩)
  rw [h1, last_LT]
  rw [itF_succ, if_pos h3] at h6
  exact ⟨adj_LT e h3, h3, h6⟩
theorem cycle_end (hF : CH n F) (hs : s < n) (hc : Cyc F s) : Adj F (wayL F n s) ∧ 0 ≤ lastI (wayL F n s) ∧ F (lastI (wayL F n s)).toNat = headI (wayL F n s) := by
  obtain ⟨e, h1, h2, h3, h4, h5⟩ := way_spec hF hs
  have h6 : itF F s (e + 1) = (s : Int) := h5.resolve_left (fun h => by have := hc.pos (e + 1); omega)
  rw [h1, last_LT, head_LT]
  rw [itF_succ, if_pos h3] at h6
  exact ⟨adj_LT e h3, h3, h6⟩
variable {m q : Nat}
theorem chL_end (hF : CH n F) (hm : RangeM n F m) : ∀ b, b ≤ n → ∀ L ∈ chL F n m b, L ≠ [] ∧ Adj F L ∧ 0 ≤ lastI L ∧ F (lastI L).toNat = -1
  | 0, _, L, hL => by cases hL
  | b + 1, hb, L, hL => by
    unfold chL at hL
    split at hL
    · exact chL_end hF hm b (by omega) L hL
    · rename_i h
      rcases List.mem_append.1 hL with h' | h'
      · exact chL_end hF hm b (by omega) L h'
      · rw [List.mem_singleton.1 h']
        exact ⟨fun e => by have := (way_len hF (show b < n by omega)).1; rw [e] at this; simp at this, chain_end hF (by omega) ((hm b (by omega)).1 (by simpa using h))⟩
theorem cyL_end (hF : CH n F) (hq : ChainM n F q) : ∀ b, b ≤ n → ∀ L ∈ cyL F n q b, L ≠ [] ∧ Adj F L ∧ 0 ≤ lastI L ∧ F (lastI L).toNat = headI L
  | 0, _, L, hL => by cases hL
  | b + 1, hb, L, hL => by
    unfold cyL at hL
    split at hL
    · exact cyL_end hF hq b (by omega) L hL
    · rename_i h
      rcases List.mem_append.1 hL with h' | h'
      · exact cyL_end hF hq b (by omega) L h'
      · rw [List.mem_singleton.1 h']
        exact ⟨fun e => by have := (way_len hF (show b < n by omega)).1; rw [e] at this; simp at this, cycle_end hF (by omega) (cyL_new hF hq (by omega) h).1⟩
theorem lnSS_good : ∀ (Cs Ys : List (List Int)) (T : Nat → Int), (∀ L ∈ Cs, L ≠ [] ∧ Adj F L ∧ 0 ≤ lastI L ∧ F (lastI L).toNat = -1) → (∀ L ∈ Ys, L ≠ [] ∧ Adj F L ∧ 0 ≤ lastI L ∧ F (lastI L).toNat = headI L) → (∀ j : Nat, T j = F j ∨ T j = -1) →
    ∀ j : Nat, (T j = F j → lnSS Cs.length T (Cs ++ Ys) j = F j) ∧ ((∃ L ∈ Cs ++ Ys, (j : Int) ∈ L) → lnSS Cs.length T (Cs ++ Ys) j = F j)
  | [], [], T, _, _, hT, j => ⟨fun h => h, fun ⟨L, h, _⟩ => by simp at h⟩
  | [], L :: Ys, T, hC, hY, hT, j => by
    obtain ⟨h1, h2, h3, h4⟩ := hY L List.mem_cons_self
    have hg := lnk_good L T h2 hT
    have hu := upI_good (T := lnk T L) h3 h4 (fun j => (hg j).1)
    have ih := lnSS_good [] Ys (cls T L) (fun _ h => by cases h) (fun M hM => hY M (List.mem_cons_of_mem _ hM)) (fun j => (hu j).1) j
    refine ⟨fun h => ih.1 ((hu j).2.1 ((hg j).2.1 h)), fun ⟨M, hM, hj⟩ => ?_⟩
    rcases List.mem_cons.1 hM with rfl | hM
    · refine ih.1 ?_
      by_cases e : (j : Int) = lastI M
      · exact (hu j).2.2 e
      · exact (hu j).2.1 ((hg j).2.2 hj e)
    · exact ih.2 ⟨M, hM, hj⟩
  | L :: Cs, Ys, T, hC, hY, hT, j => by
    obtain ⟨h1, h2, h3, h4⟩ := hC L List.mem_cons_self
    have hg := lnk_good L T h2 hT
    have ih := lnSS_good Cs Ys (lnk T L) (fun M hM => hC M (List.mem_cons_of_mem _ hM)) hY (fun j => (hg j).1) j
    refine ⟨fun h => ih.1 ((hg j).2.1 h), fun ⟨M, hM, hj⟩ => ?_⟩
    rcases List.mem_cons.1 hM with rfl | hM
    · refine ih.1 ?_
      by_cases e : (j : Int) = lastI M
      · have he : (lastI M).toNat = j := by omega
        rw [he] at h4
        rcases (hg j).1 with h | h
        · exact h
        · rw [h, h4]
      · exact (hg j).2.2 hj e
    · exact ih.2 ⟨M, hM, hj⟩
theorem mask_full {n m : Nat} (h : ∀ j, m.testBit j = decide (j < n)) : m = 2 ^ n - 1 := by
  apply Nat.eq_of_testBit_eq
  intro j
  rw [h, Nat.testBit_two_pow_sub_one]
/-- a chart's own ways make it -/
theorem ways_back (hF : CH n F) (hm : RangeM n F m) : wcB (n : Int) (chL F n m n) (cyL F n (orSS 0 (chL F n m n)) n) = true ∧ wcL (n : Int) (chL F n m n) (cyL F n (orSS 0 (chL F n m n)) n) = LT n F := by
  have hC := chL_end hF hm n (Nat.le_refl _)
  have hY := cyL_end hF (chL_mask hF hm) n (Nat.le_refl _)
  have hent : ∀ L ∈ chL F n m n ++ cyL F n (orSS 0 (chL F n m n)) n, ∀ z ∈ L, 0 ≤ z ∧ z < n := fun L hL => by
    rcases List.mem_append.1 hL with h | h
    · exact chL_ent hF n (Nat.le_refl _) L h
    · exact cyL_ent hF n (Nat.le_refl _) L h
  have honce := fun (j : Nat) (hj : j < n) => ways_once hF hm hj
  have hex : ∀ j : Nat, j < n → ∃ L ∈ chL F n m n ++ cyL F n (orSS 0 (chL F n m n)) n, (j : Int) ∈ L := fun j hj => by
    apply Classical.byContradiction
    intro hno
    have h0 := mem_occ (Ls := chL F n m n ++ cyL F n (orSS 0 (chL F n m n)) n) (z := (j : Int)) (fun L hL hz => hno ⟨L, hL, hz⟩)
    have := honce j hj; omega
  have h1 := hF.one
  have h6 := hF.six
  have hB : wcB (n : Int) (chL F n m n) (cyL F n (orSS 0 (chL F n m n)) n) = true := by
    unfold wcB inB
    rw [Int.toNat_natCast, decide_eq_true (show (1 : Int) ≤ n ∧ (n : Int) ≤ 6 by omega), okSS_of n _ 0 (fun L hL => ⟨?_, hent L hL⟩) (fun j => ?_), decide_eq_true]
    · rfl
    · refine mask_full (fun j => ?_)
      have hb := orSS_bit (j := j) (chL F n m n ++ cyL F n (orSS 0 (chL F n m n)) n) 0 (fun L hL z hz => (hent L hL z hz).1)
      by_cases hj : j < n
      · rw [decide_eq_true hj]; exact hb.2 (.inr (hex j hj))
      · rw [decide_eq_false hj]
        cases e : (orSS 0 (chL F n m n ++ cyL F n (orSS 0 (chL F n m n)) n)).testBit j with
        | false => rfl
        | true =>
          rcases hb.1 e with h | ⟨L, hL, hz⟩
          · simp at h
          · have := hent L hL _ hz; omega
    · rcases List.mem_append.1 hL with h | h
      · exact (hC L h).1
      · exact (hY L h).1
    · rw [Nat.zero_testBit]
      by_cases hj : j < n
      · rw [honce j hj]; simp
      · rw [mem_occ (fun L hL hz => by have := hent L hL _ hz; omega)]; simp
  refine ⟨hB, ?_⟩
  unfold wcL
  rw [if_pos hB, Int.toNat_natCast]
  exact LT_congr (fun j hj => (lnSS_good _ _ _ hC hY (fun _ => .inr rfl) j).2 (hex j hj))
end
end

/-! The chart of some ways has as many ways, and one point less in its domain for each chain; no program. -/
section
/-- a chart under way: what is met is the mask m -/
structure Und (n m : Nat) (T : Nat → Int) : Prop where
  lt : ∀ j, m.testBit j = true → j < n
  val : ∀ j, T j = -1 ∨ (m.testBit j = true ∧ 0 ≤ T j ∧ m.testBit (T j).toNat = true)
  inj : ∀ i j, T i ≠ -1 → T i = T j → i = j
/-- points met that lead nowhere -/
def snk (m : Nat) (T : Nat → Int) (n : Nat) : Nat := cnt (fun j => m.testBit j && decide (T j = -1)) n
theorem cnt_ins {P Q : Nat → Bool} {a : Nat} : ∀ {k : Nat}, a < k → P a = false → Q a = true → (∀ j, j ≠ a → P j = Q j) → cnt Q k = cnt P k + 1
  | 0, h, _, _, _ => by omega
  | k + 1, h, hp, hq, he => by
    rw [cnt_succ, cnt_succ]
    by_cases e : a = k
    · subst e
      rw [cnt_congr (P := Q) (Q := P) (fun j hj => (he j (by omega)).symm), hp, hq]; rfl
    · rw [cnt_ins (by omega) hp hq he, he k (fun h => e h.symm)]; omega
theorem bit_new (m j z : Nat) : (m ||| 1 <<< z).testBit j = (m.testBit j || decide (z = j)) := by rw [Nat.testBit_or, Nat.one_shiftLeft, Nat.testBit_two_pow]

section
variable {n m : Nat} {T : Nat → Int}
/-- a point is met -/
theorem Und.meet (h : Und n m T) {z : Nat} (hz : z < n) (hb : m.testBit z = false) : Und n (m ||| 1 <<< z) T ∧ T z = -1 ∧ (∀ j, T j ≠ (z : Int)) ∧ snk (m ||| 1 <<< z) T n = snk m T n + 1 := by
  have h1 : T z = -1 := (h.val z).resolve_right (fun h' => by rw [h'.1] at hb; cases hb)
  have h2 : ∀ j, T j ≠ (z : Int) := fun j e => by
    rcases h.val j with h' | h'
    · omega
    · rw [e, Int.toNat_natCast, hb] at h'; exact absurd h'.2.2 (by simp)
  refine ⟨⟨fun j hj => ?_, fun j => ?_, h.inj⟩, h1, h2, ?_⟩
  · rw [bit_new, Bool.or_eq_true, decide_eq_true_eq] at hj
    rcases hj with hj | rfl
    · exact h.lt j hj
    · exact hz
  · rcases h.val j with h' | h'
    · exact .inl h'
    · exact .inr ⟨by rw [bit_new, h'.1]; rfl, h'.2.1, by rw [bit_new, h'.2.2]; rfl⟩
  · unfold snk
    refine cnt_ins hz (by rw [hb]; rfl) (by rw [bit_new, h1]; simp) (fun j hj => ?_)
    have e0 : decide (z = j) = false := decide_eq_false (fun e => hj e.symm)
    rw [bit_new, e0, Bool.or_false]
/-- a sink is led to a point that nothing leads to -/
theorem Und.link (h : Und n m T) {y z : Nat} (hy : m.testBit y = true) (hz : m.testBit z = true) (hs : T y = -1) (hf : ∀ j, T j ≠ (z : Int)) : Und n m (upI T y z) ∧ snk m T n = snk m (upI T y z) n + 1 ∧ ∀ j, j ≠ y → upI T y z j = T j := by
  have hne : ∀ j, j ≠ y → upI T y z j = T j := fun j hj => by unfold upI; rw [if_neg (by omega)]
  have hat : upI T y z y = (z : Int) := by unfold upI; rw [if_pos rfl]
  refine ⟨⟨h.lt, fun j => ?_, fun i j hi he => ?_⟩, ?_, hne⟩
  · by_cases e : j = y
    · subst e; rw [hat]; exact .inr ⟨hy, by omega, by rw [Int.toNat_natCast]; exact hz⟩
    · rw [hne j e]; exact h.val j
  · by_cases e : i = y
    · subst e
      rw [hat] at he
      by_cases e' : j = i
      · exact e'.symm
      · rw [hne j e'] at he; exact absurd he.symm (hf j)
    · rw [hne i e] at hi he
      by_cases e' : j = y
      · subst e'; rw [hat] at he; exact absurd he (hf i)
      · rw [hne j e'] at he; exact h.inj i j hi he
  · unfold snk
    refine cnt_ins (h.lt y hy) (by rw [hat, hy]; simp) (by rw [hs, hy]; simp) (fun j hj => by rw [hne j hj])

/-- what a list that was led along has -/
structure Led (n m : Nat) (T : Nat → Int) (L : List Int) (m' : Nat) (T' : Nat → Int) : Prop where
  und : Und n m' T'
  old : ∀ j, m.testBit j = true → m'.testBit j = true ∧ T' j = T j
  new : ∀ j : Nat, (j : Int) ∈ L → m'.testBit j = true ∧ m.testBit j = false
  adj : Adj T' L
  dom : ∀ z ∈ L, 0 ≤ z ∧ z < n
theorem adj_snoc {F : Nat → Int} {z : Int} : ∀ {L : List Int}, Adj F L → (L ≠ [] → 0 ≤ lastI L ∧ F (lastI L).toNat = z) → Adj F (L ++ [z])
  | [], _, _ => trivial
  | [y], _, h => by have := h (by simp); simp [lastI] at this; exact ⟨this.1, this.2, trivial⟩
  | x :: y :: L, ha, h => by
    have hl : lastI (x :: y :: L) = lastI (y :: L) := by simp [lastI]
    rw [hl] at h
    exact ⟨ha.1, ha.2.1, adj_snoc (L := y :: L) ha.2.2 (fun _ => h (by simp))⟩
theorem adj_ext {F G : Nat → Int} : ∀ {L : List Int}, Adj F L → (∀ y ∈ L, y ≠ lastI L → F y.toNat = G y.toNat) → L.Nodup → Adj G L
  | [], _, _, _ => trivial
  | [y], _, _, _ => trivial
  | x :: y :: L, ha, h, hn => by
    have hl : lastI (x :: y :: L) = lastI (y :: L) := by simp [lastI]
    rw [List.nodup_cons] at hn
    have hx : x ≠ lastI (x :: y :: L) := fun e => by
      rw [hl] at e
      refine hn.1 ?_
      rw [e]; unfold lastI
      rw [List.getLast?_eq_some_getLast (by simp)]
      exact List.getLast_mem _
    refine ⟨ha.1, by rw [← h x List.mem_cons_self hx]; exact ha.2.1, adj_ext (L := y :: L) ha.2.2 (fun z hz hne => h z (List.mem_cons_of_mem _ hz) (by rw [hl]; exact hne)) hn.2⟩
theorem lastI_mem {L : List Int} (h : L ≠ []) : lastI L ∈ L := by
  unfold lastI
  rw [List.getLast?_eq_some_getLast h]
  exact List.getLast_mem _
theorem headI_mem : ∀ {L : List Int}, L ≠ [] → headI L ∈ L
  | [], h => absurd rfl h
  | x :: L, _ => by simp [headI]
theorem okL_nodup : ∀ (L : List Int) (m : Nat), okL n m L = true → L.Nodup ∧ (∀ z ∈ L, 0 ≤ z ∧ z < n ∧ m.testBit z.toNat = false)
  | [], _, _ => ⟨List.nodup_nil, fun z h => by cases h⟩
  | z :: L, m, h => by
    unfold okL at h
    rw [Bool.and_eq_true] at h
    have hz := of_decide_eq_true h.1
    have ih := okL_nodup L _ h.2
    refine ⟨List.nodup_cons.2 ⟨fun hm => ?_, ih.1⟩, fun y hy => ?_⟩
    · have := (ih.2 z hm).2.2; rw [bit_new] at this; simp at this
    · rcases List.mem_cons.1 hy with rfl | hy
      · exact hz
      · have := ih.2 y hy
        refine ⟨this.1, this.2.1, ?_⟩
        have hb := this.2.2; rw [bit_new, Bool.or_eq_false_iff] at hb; exact hb.1
theorem led_chain (h : Und n m T) {L : List Int} (hL : L ≠ []) (ho : okL n m L = true) : Led n m T L (orL m L) (lnk T L) ∧ lnk T L (lastI L).toNat = -1 ∧ (∀ j, lnk T L j ≠ headI L) ∧ snk (orL m L) (lnk T L) n = snk m T n + 1 := by
  have gen : ∀ k (L : List Int), L.length = k + 1 → okL n m L = true → Led n m T L (orL m L) (lnk T L) ∧ lnk T L (lastI L).toNat = -1 ∧ (∀ j, lnk T L j ≠ headI L) ∧ snk (orL m L) (lnk T L) n = snk m T n + 1 := fun k => by
    induction k with
    | zero =>
      intro L hl ho
      obtain ⟨z, rfl⟩ : ∃ z, L = [z] := by
        match L, hl with
        | [z], _ => exact ⟨z, rfl⟩
      have hz := (okL_nodup _ _ ho).2 z List.mem_cons_self
      obtain ⟨y, rfl⟩ := Int.eq_ofNat_of_zero_le hz.1
      rw [Int.toNat_natCast] at hz
      have hm := h.meet (z := y) (by omega) hz.2.2
      refine ⟨⟨hm.1, fun j hj => ⟨by show (m ||| 1 <<< ((y : Int)).toNat).testBit j = true; rw [bit_new, hj]; rfl, rfl⟩, fun j hj => ?_, trivial, fun z hz' => ?_⟩, by simpa [lastI, lnk] using hm.2.1, by simpa [headI, lnk] using hm.2.2.1, hm.2.2.2⟩
      · have : j = y := by have := List.mem_singleton.1 hj; omega
        subst this
        exact ⟨by show (m ||| 1 <<< ((j : Int)).toNat).testBit j = true; rw [bit_new]; simp, hz.2.2⟩
      · rw [List.mem_singleton.1 hz']; omega
    | succ k ih =>
      intro L hl ho
      have hd : L = L.dropLast ++ [lastI L] := by
        have hne : L ≠ [] := fun e => by rw [e] at hl; simp at hl
        conv => lhs; rw [← List.dropLast_concat_getLast hne]
        unfold lastI; rw [List.getLast?_eq_some_getLast hne]; rfl
      generalize lastI L = z at hd
      generalize hL0 : L.dropLast = L0 at hd
      have hl0 : L0.length = k + 1 := by rw [← hL0, List.length_dropLast]; omega
      have hne0 : L0 ≠ [] := fun e => by rw [e] at hl0; simp at hl0
      subst hd
      rw [okL_snoc, Bool.and_eq_true] at ho
      have hz := of_decide_eq_true ho.2
      obtain ⟨y, rfl⟩ := Int.eq_ofNat_of_zero_le hz.1
      rw [Int.toNat_natCast] at hz
      obtain ⟨a1, a2, a3, a4⟩ := ih L0 hl0 ho.1
      have hlast := a1.dom _ (lastI_mem hne0)
      obtain ⟨x, hx⟩ := Int.eq_ofNat_of_zero_le hlast.1
      have hxb := (a1.new x (by rw [← hx]; exact lastI_mem hne0)).1
      rw [hx, Int.toNat_natCast] at a2
      obtain ⟨b1, b2, b3, b4⟩ := a1.und.meet (z := y) (by omega) hz.2.2
      have hxy : x ≠ y := fun e => by subst e; rw [hxb] at hz; exact absurd hz.2.2 (by simp)
      have hbx : (orL m L0 ||| 1 <<< y).testBit x = true := by rw [bit_new, hxb]; rfl
      have hby : (orL m L0 ||| 1 <<< y).testBit y = true := by rw [bit_new]; simp
      obtain ⟨c1, c2, c3⟩ := b1.link (y := x) (z := y) hbx hby a2 b3
      have hme : orL m (L0 ++ [(y : Int)]) = orL m L0 ||| 1 <<< y := by rw [orL_snoc, Int.toNat_natCast]
      have hTe : lnk T (L0 ++ [(y : Int)]) = upI (lnk T L0) x y := by rw [lnk_snoc _ _ _ hne0, hx]
      have hhe : headI (L0 ++ [(y : Int)]) = headI L0 := by
        cases L0 with
        | nil => exact absurd rfl hne0
        | cons a b => simp [headI]
      have hnd := okL_nodup L0 m ho.1
      rw [hme, hTe, hhe, Int.toNat_natCast]
      refine ⟨⟨c1, fun j hj => ?_, fun j hj => ?_, adj_snoc (adj_ext a1.adj (fun w hw hne => ?_) hnd.1) (fun _ => ⟨by omega, ?_⟩), fun w hw => ?_⟩, ?_, fun j => ?_, ?_⟩
      · have hxm : j ≠ x := fun e => by subst e; rw [(a1.new j (by rw [← hx]; exact lastI_mem hne0)).2] at hj; cases hj
        exact ⟨by rw [bit_new, (a1.old j hj).1]; rfl, by rw [c3 j hxm]; exact (a1.old j hj).2⟩
      · rcases List.mem_append.1 hj with hj | hj
        · exact ⟨by rw [bit_new, (a1.new j hj).1]; rfl, (a1.new j hj).2⟩
        · have : j = y := by have := List.mem_singleton.1 hj; omega
          subst this
          refine ⟨hby, ?_⟩
          cases e : m.testBit j with
          | false => rfl
          | true => rw [(a1.old j e).1] at hz; exact absurd hz.2.2 (by simp)
      · have hw0 := (hnd.2 w hw).1
        rw [c3 w.toNat (fun e => hne (by rw [hx]; omega))]
      · rw [hx, Int.toNat_natCast]; unfold upI; rw [if_pos rfl]
      · rcases List.mem_append.1 hw with hw | hw
        · exact a1.dom w hw
        · rw [List.mem_singleton.1 hw]; omega
      · rw [c3 y (fun e => hxy e.symm)]; exact b2
      · by_cases e : j = x
        · subst e
          have : upI (lnk T L0) (j : Int) y j = (y : Int) := by unfold upI; rw [if_pos rfl]
          rw [this]
          intro e'
          have := a1.new y (by rw [e']; exact headI_mem hne0)
          rw [this.1] at hz; exact absurd hz.2.2 (by simp)
        · rw [c3 j e]; exact a3 j
      · omega
  obtain ⟨k, hk⟩ : ∃ k, L.length = k + 1 := ⟨L.length - 1, by have := List.length_pos_iff.2 hL; omega⟩
  exact gen k L hk ho
theorem led_cycle (h : Und n m T) {L : List Int} (hL : L ≠ []) (ho : okL n m L = true) : Led n m T L (orL m L) (cls T L) ∧ cls T L (lastI L).toNat = headI L ∧ snk (orL m L) (cls T L) n = snk m T n := by
  obtain ⟨a1, a2, a3, a4⟩ := led_chain h hL ho
  have hlast := a1.dom _ (lastI_mem hL)
  have hhead := a1.dom _ (headI_mem hL)
  obtain ⟨x, hx⟩ := Int.eq_ofNat_of_zero_le hlast.1
  obtain ⟨y, hy⟩ := Int.eq_ofNat_of_zero_le hhead.1
  have hxn := a1.new x (by rw [← hx]; exact lastI_mem hL)
  have hyn := a1.new y (by rw [← hy]; exact headI_mem hL)
  rw [hx, Int.toNat_natCast] at a2
  rw [hy] at a3
  obtain ⟨c1, c2, c3⟩ := a1.und.link (y := x) (z := y) hxn.1 hyn.1 a2 a3
  have hnd := okL_nodup L m ho
  unfold cls
  rw [hx, hy, Int.toNat_natCast]
  refine ⟨⟨c1, fun j hj => ?_, a1.new, adj_ext a1.adj (fun w hw hne => ?_) hnd.1, a1.dom⟩, by unfold upI; rw [if_pos rfl], by omega⟩
  · have hxm : j ≠ x := fun e => by subst e; rw [hxn.2] at hj; cases hj
    exact ⟨(a1.old j hj).1, by rw [c3 j hxm]; exact (a1.old j hj).2⟩
  · have hw0 := (hnd.2 w hw).1
    rw [c3 w.toNat (fun e => hne (by rw [hx]; omega))]

/-- all lists led along -/
structure All (n m : Nat) (T : Nat → Int) (Cs Ys : List (List Int)) (m' : Nat) (T' : Nat → Int) : Prop where
  und : Und n m' T'
  old : ∀ j, m.testBit j = true → m'.testBit j = true ∧ T' j = T j
  cs : ∀ L ∈ Cs, L ≠ [] ∧ Adj T' L ∧ T' (lastI L).toNat = -1 ∧ (∀ z ∈ L, 0 ≤ z ∧ z < n)
  ys : ∀ L ∈ Ys, L ≠ [] ∧ Adj T' L ∧ T' (lastI L).toNat = headI L ∧ (∀ z ∈ L, 0 ≤ z ∧ z < n)
  snk_ : snk m' T' n = snk m T n + Cs.length
  occ_ : ∀ j : Nat, m'.testBit j = true → m.testBit j = false → occ (Cs ++ Ys) (j : Int) = 1
  out : ∀ j : Nat, m.testBit j = true → occ (Cs ++ Ys) (j : Int) = 0
theorem adj_keep {F G : Nat → Int} : ∀ {L : List Int}, Adj F L → (∀ y ∈ L, F y.toNat = G y.toNat) → Adj G L
  | [], _, _ => trivial
  | [y], _, _ => trivial
  | x :: y :: L, ha, h => ⟨ha.1, by rw [← h x List.mem_cons_self]; exact ha.2.1, adj_keep (L := y :: L) ha.2.2 (fun z hz => h z (List.mem_cons_of_mem _ hz))⟩
theorem all_led : ∀ (Cs Ys : List (List Int)) (m : Nat) (T : Nat → Int), Und n m T → okSS n m (Cs ++ Ys) = true → All n m T Cs Ys (orSS m (Cs ++ Ys)) (lnSS Cs.length T (Cs ++ Ys))
  | [], [], m, T, h, _ => ⟨h, fun j hj => ⟨hj, rfl⟩, fun L hL => (by cases hL), fun L hL => (by cases hL), rfl, fun j h1 h2 => (by have h1 : m.testBit j = true := h1; rw [h1] at h2; cases h2), fun j _ => rfl⟩
  | [], L :: Ys, m, T, h, ho => by
    have ho : (decide (L ≠ []) && okL n m L && okSS n (orL m L) Ys) = true := ho
    rw [Bool.and_eq_true, Bool.and_eq_true] at ho
    have hL := of_decide_eq_true ho.1.1
    obtain ⟨a1, a2, a3⟩ := led_cycle h hL ho.1.2
    have ih := all_led [] Ys (orL m L) (cls T L) a1.und ho.2
    have hat : ∀ z ∈ L, lnSS 0 (cls T L) Ys z.toNat = cls T L z.toNat := fun z hz => by
      have hz0 := a1.dom z hz
      exact (ih.old z.toNat (a1.new z.toNat (by rw [Int.toNat_of_nonneg hz0.1]; exact hz)).1).2
    have hn := (okL_nodup L m ho.1.2).1
    refine ⟨ih.und, fun j hj => ⟨(ih.old j (a1.old j hj).1).1, ((ih.old j (a1.old j hj).1).2).trans (a1.old j hj).2⟩, fun M hM => (by cases hM), fun M hM => ?_, ?_, fun j h1 h2 => ?_, fun j hj => ?_⟩
    · rcases List.mem_cons.1 hM with rfl | hM
      · exact ⟨hL, adj_keep a1.adj (fun y hy => (hat y hy).symm), (hat _ (lastI_mem hL)).trans a2, a1.dom⟩
      · exact ih.ys M hM
    · have := ih.snk_; simp only [List.length_nil, Nat.add_zero] at this ⊢; exact this.trans a3
    · show L.count (j : Int) + occ Ys (j : Int) = 1
      by_cases hb : (orL m L).testBit j = true
      · have h3 := ih.out j hb
        have h4 := ((orL_bit L m (fun z hz => (a1.dom z hz).1)).1 hb).resolve_left (by rw [h2]; simp)
        rw [count_in hn h4]; have h3 : occ Ys (j : Int) = 0 := h3; omega
      · have hb' : (orL m L).testBit j = false := by simpa using hb
        have h3 : occ Ys (j : Int) = 1 := ih.occ_ j h1 hb'
        rw [List.count_eq_zero.2 (fun hm => hb (a1.new j hm).1), h3]
    · show L.count (j : Int) + occ Ys (j : Int) = 0
      have h3 : occ Ys (j : Int) = 0 := ih.out j (a1.old j hj).1
      rw [List.count_eq_zero.2 (fun hm => by rw [(a1.new j hm).2] at hj; cases hj), h3]
  | L :: Cs, Ys, m, T, h, ho => by
    have ho : (decide (L ≠ []) && okL n m L && okSS n (orL m L) (Cs ++ Ys)) = true := ho
    rw [Bool.and_eq_true, Bool.and_eq_true] at ho
    have hL := of_decide_eq_true ho.1.1
    obtain ⟨a1, a2, _, a3⟩ := led_chain h hL ho.1.2
    have ih := all_led Cs Ys (orL m L) (lnk T L) a1.und ho.2
    have hat : ∀ z ∈ L, lnSS Cs.length (lnk T L) (Cs ++ Ys) z.toNat = lnk T L z.toNat := fun z hz => by
      have hz0 := a1.dom z hz
      exact (ih.old z.toNat (a1.new z.toNat (by rw [Int.toNat_of_nonneg hz0.1]; exact hz)).1).2
    have hn := (okL_nodup L m ho.1.2).1
    refine ⟨ih.und, fun j hj => ⟨(ih.old j (a1.old j hj).1).1, ((ih.old j (a1.old j hj).1).2).trans (a1.old j hj).2⟩, fun M hM => ?_, ih.ys, ?_, fun j h1 h2 => ?_, fun j hj => ?_⟩
    · rcases List.mem_cons.1 hM with rfl | hM
      · exact ⟨hL, adj_keep a1.adj (fun y hy => (hat y hy).symm), (hat _ (lastI_mem hL)).trans a2, a1.dom⟩
      · exact ih.cs M hM
    · have := ih.snk_; simp only [List.length_cons]; exact this.trans (by rw [a3]; omega)
    · show L.count (j : Int) + occ (Cs ++ Ys) (j : Int) = 1
      by_cases hb : (orL m L).testBit j = true
      · have h3 := ih.out j hb
        have h4 := ((orL_bit L m (fun z hz => (a1.dom z hz).1)).1 hb).resolve_left (by rw [h2]; simp)
        rw [count_in hn h4]; omega
      · have hb' : (orL m L).testBit j = false := by simpa using hb
        have h3 := ih.occ_ j h1 hb'
        rw [List.count_eq_zero.2 (fun hm => hb (a1.new j hm).1), h3]
    · show L.count (j : Int) + occ (Cs ++ Ys) (j : Int) = 0
      have h3 := ih.out j (a1.old j hj).1
      rw [List.count_eq_zero.2 (fun hm => by rw [(a1.new j hm).2] at hj; cases hj), h3]
end
end

/-! The chart of some ways: it is a chart, its rank, how many ways it has; no program. -/
section
theorem it0 (F : Nat → Int) (s : Nat) : 0 ≤ itF F s 0 := by show (0 : Int) ≤ (s : Int); omega
theorem chL_succ (F : Nat → Int) (n m b : Nat) : chL F n m (b + 1) = if m.testBit b = true then chL F n m b else chL F n m b ++ [wayL F n b] := rfl
theorem cyL_succ (F : Nat → Int) (n q b : Nat) : cyL F n q (b + 1) = if (orSS q (cyL F n q b)).testBit b = true then cyL F n q b else cyL F n q b ++ [wayL F n b] := rfl
theorem cnt_not (P : Nat → Bool) : ∀ k, cnt P k + cnt (fun j => !P j) k = k
  | 0 => rfl
  | k + 1 => by have := cnt_not P k; rw [cnt_succ, cnt_succ]; cases P k <;> simp <;> omega
section
variable {n m q : Nat} {F : Nat → Int}
theorem NR_trn (hF : CH n F) {s : Nat} (hs : s < n) : NR n F s ↔ trn n F s = -1 := (trn_none hF hs).symm
theorem chL_count (hF : CH n F) (hm : RangeM n F m) : ∀ b, b ≤ n → (chL F n m b).length = cnt (fun i => decide (trn n F i = -1)) b
  | 0, _ => rfl
  | b + 1, hb => by
    have ih := chL_count hF hm b (by omega)
    rw [cnt_succ, ← ih, chL_succ]
    have hmb := hm b (by omega)
    by_cases h : m.testBit b = true
    · rw [if_pos h, decide_eq_false (fun e => by rw [hmb.2 ((NR_trn hF (by omega)).2 e)] at h; cases h)]; rfl
    · rw [if_neg h, decide_eq_true ((NR_trn hF (by omega)).1 (hmb.1 (by simpa using h))), List.length_append]; rfl
theorem chL_total (hF : CH n F) (hm : RangeM n F m) : (chL F n m n).length = cnt (fun j => decide (F j = -1)) n := by
  rw [chL_count hF hm n (Nat.le_refl _)]
  have h1 := cnt_not (fun j => decide (trn n F j ≠ -1)) n
  have h2 := cnt_not (fun j => decide (F j ≠ -1)) n
  have h3 := cnt_trn hF
  have e1 : cnt (fun j => !decide (trn n F j ≠ -1)) n = cnt (fun i => decide (trn n F i = -1)) n := cnt_congr (fun j _ => by simp)
  have e2 : cnt (fun j => !decide (F j ≠ -1)) n = cnt (fun i => decide (F i = -1)) n := cnt_congr (fun j _ => by simp)
  omega
/-- the least point of a cycle -/
def Lea (F : Nat → Int) (i : Nat) : Prop := Cyc F i ∧ ∀ a, a < i → ¬ Rch F i a
noncomputable def leaB (F : Nat → Int) (i : Nat) : Bool := @decide (Lea F i) (Classical.propDecidable _)
theorem leaB_iff {i : Nat} : leaB F i = true ↔ Lea F i := by unfold leaB; exact @decide_eq_true_iff _ (Classical.propDecidable _)
theorem cyL_count (hF : CH n F) (hq : ChainM n F q) : ∀ b, b ≤ n → (cyL F n q b).length = cnt (leaB F) b
  | 0, _ => rfl
  | b + 1, hb => by
    have ih := cyL_count hF hq b (by omega)
    rw [cnt_succ, ← ih, cyL_succ]
    by_cases h : (orSS q (cyL F n q b)).testBit b = true
    · rw [if_pos h]
      have : leaB F b = false := by
        cases e : leaB F b with
        | false => rfl
        | true =>
          have hl := leaB_iff.1 e
          have h2 := (cyL_occ hF hq b (by omega) b (by omega)).2 (fun h' => by obtain ⟨_, i, h3, h4⟩ := h'; exact hl.2 i h3 h4)
          rcases (orSS_bit _ _ (fun L hL z hz => (cyL_ent hF b (by omega) L hL z hz).1)).1 h with h3 | ⟨L, hL, hz⟩
          · obtain ⟨s, h4, h5, h6⟩ := (hq b (by omega)).1 h3
            exact absurd (hl.1.of (hl.1.to hF h4 (by omega) h6)) (h5.noCyc hF h4)
          · exact absurd hz (occ_mem h2 L hL)
      rw [this]; rfl
    · rw [if_neg h, leaB_iff.2 (cyL_new hF hq (by omega) h), List.length_append]; rfl
end

section
variable {n : Nat} {T : Nat → Int}
theorem adj_next : ∀ {L : List Int}, Adj T L → ∀ z ∈ L, z ≠ lastI L → T z.toNat ∈ L
  | [], _, z, hz, _ => by cases hz
  | [y], _, z, hz, hne => by rw [List.mem_singleton.1 hz] at hne; simp [lastI] at hne
  | x :: y :: L, ha, z, hz, hne => by
    have hl : lastI (x :: y :: L) = lastI (y :: L) := by simp [lastI]
    rw [hl] at hne
    rcases List.mem_cons.1 hz with rfl | hz
    · rw [ha.2.1]; simp
    · exact List.mem_cons_of_mem _ (adj_next (L := y :: L) ha.2.2 z hz hne)
theorem adj_to_last : ∀ {L : List Int}, Adj T L → (∀ z ∈ L, 0 ≤ z) → ∀ z ∈ L, ∃ k, itF T z.toNat k = lastI L
  | [], _, _, z, hz => by cases hz
  | [y], _, h0, z, hz => ⟨0, by have := h0 y List.mem_cons_self; rw [List.mem_singleton.1 hz]; simp [itF, lastI]; omega⟩
  | x :: y :: L, ha, h0, z, hz => by
    have hl : lastI (x :: y :: L) = lastI (y :: L) := by simp [lastI]
    rw [hl]
    have ih := adj_to_last (L := y :: L) ha.2.2 (fun z hz => h0 z (List.mem_cons_of_mem _ hz))
    rcases List.mem_cons.1 hz with rfl | hz
    · obtain ⟨k, hk⟩ := ih y List.mem_cons_self
      have hy := h0 y (by simp)
      have h1 : itF T z.toNat 1 = ((y.toNat : Nat) : Int) := by
        rw [itF_succ, if_pos (it0 T z.toNat)]
        show T (((z.toNat : Nat) : Int)).toNat = _
        rw [Int.toNat_natCast, ha.2.1]; omega
      exact ⟨1 + k, by rw [it_via h1, hk]⟩
    · exact ih z hz
theorem adj_from_head : ∀ {L : List Int}, Adj T L → (∀ z ∈ L, 0 ≤ z) → ∀ z ∈ L, ∃ k, itF T (headI L).toNat k = z
  | [], _, _, z, hz => by cases hz
  | [y], _, h0, z, hz => ⟨0, by have := h0 y List.mem_cons_self; rw [List.mem_singleton.1 hz]; simp [itF, headI]; omega⟩
  | x :: y :: L, ha, h0, z, hz => by
    have hx := h0 x List.mem_cons_self
    have hy := h0 y (by simp)
    have hh : headI (x :: y :: L) = x := rfl
    rw [hh]
    have ih := adj_from_head (L := y :: L) ha.2.2 (fun z hz => h0 z (List.mem_cons_of_mem _ hz))
    rcases List.mem_cons.1 hz with rfl | hz
    · exact ⟨0, by simp [itF]; omega⟩
    · obtain ⟨k, hk⟩ := ih z hz
      have h1 : itF T x.toNat 1 = ((y.toNat : Nat) : Int) := by
        rw [itF_succ, if_pos (it0 T x.toNat)]
        show T (((x.toNat : Nat) : Int)).toNat = _
        rw [Int.toNat_natCast, ha.2.1]; omega
      exact ⟨1 + k, by rw [it_via h1]; exact hk⟩
theorem sumL_zero {g : Nat → Nat} : ∀ {L : List Int}, (∀ z ∈ L, g z.toNat = 0) → sumL g L = 0
  | [], _ => rfl
  | z :: L, h => by simp only [sumL]; rw [h z List.mem_cons_self, sumL_zero (fun y hy => h y (List.mem_cons_of_mem _ hy))]
theorem sumL_ind {g : Nat → Nat} {a : Int} : ∀ {L : List Int}, (∀ z ∈ L, g z.toNat = if z = a then 1 else 0) → sumL g L = L.count a
  | [], _ => rfl
  | z :: L, h => by
    simp only [sumL]; rw [h z List.mem_cons_self, sumL_ind (fun y hy => h y (List.mem_cons_of_mem _ hy)), List.count_cons]
    simp only [beq_iff_eq]; omega
theorem count_le_occ {z : Int} : ∀ {Ls : List (List Int)} {L : List Int}, L ∈ Ls → L.count z ≤ occ Ls z
  | M :: Ls, L, h => by
    simp only [occ]
    rcases List.mem_cons.1 h with rfl | h
    · omega
    · have := count_le_occ (z := z) h; omega
theorem least_mem {L : List Int} {z : Nat} (h : (z : Int) ∈ L) : ∃ a : Nat, (a : Int) ∈ L ∧ ∀ i : Nat, i < a → (i : Int) ∉ L := by
  induction z using Nat.strongRecOn with
  | ind z ih =>
    by_cases hc : ∃ i : Nat, i < z ∧ (i : Int) ∈ L
    · obtain ⟨i, h1, h2⟩ := hc; exact ih i h1 h2
    · exact ⟨z, h, fun i h1 h2 => hc ⟨i, h1, h2⟩⟩
theorem chain_lea {L : List Int} (ha : Adj T L) (h0 : ∀ z ∈ L, 0 ≤ z ∧ z < n) (he : T (lastI L).toNat = -1) : ∀ z ∈ L, leaB T z.toNat = false := fun z hz => by
  cases e : leaB T z.toNat with
  | false => rfl
  | true =>
    have hl := (leaB_iff.1 e).1
    obtain ⟨k, hk⟩ := adj_to_last ha (fun z hz => (h0 z hz).1) z hz
    have hne : L ≠ [] := fun e => by rw [e] at hz; cases hz
    have h1 := h0 _ (lastI_mem hne)
    have h2 : Rch T z.toNat (lastI L).toNat := ⟨k, by rw [hk]; omega⟩
    have h3 := (hl.of h2).pos 1
    rw [itF_succ, if_pos (it0 T (lastI L).toNat)] at h3
    have h3 : 0 ≤ T ((((lastI L).toNat : Nat) : Int)).toNat := h3
    rw [Int.toNat_natCast, he] at h3; omega
theorem cycle_lea {L : List Int} (hL : L ≠ []) (ha : Adj T L) (h0 : ∀ z ∈ L, 0 ≤ z ∧ z < n) (he : T (lastI L).toNat = headI L) (hn : ∀ z, L.count z ≤ 1) : sumL (fun j => if leaB T j = true then 1 else 0) L = 1 := by
  have hnext : ∀ z ∈ L, T z.toNat ∈ L := fun z hz => by
    by_cases e : z = lastI L
    · rw [e, he]; exact headI_mem hL
    · exact adj_next ha z hz e
  have hin : ∀ z ∈ L, ∀ k, itF T z.toNat k ∈ L := fun z hz k => by
    induction k with
    | zero => have := h0 z hz; rw [show itF T z.toNat 0 = z by simp [itF]; omega]; exact hz
    | succ k ih => rw [itF_succ, if_pos (h0 _ ih).1]; exact hnext _ ih
  have hlast := h0 _ (lastI_mem hL)
  have hhead := h0 _ (headI_mem hL)
  have hgo : ∀ y ∈ L, ∀ z ∈ L, ∃ k, 1 ≤ k ∧ itF T y.toNat k = (z.toNat : Int) := fun y hy z hz => by
    obtain ⟨a, ha'⟩ := adj_to_last ha (fun z hz => (h0 z hz).1) y hy
    obtain ⟨b, hb⟩ := adj_from_head ha (fun z hz => (h0 z hz).1) z hz
    have h1 : itF T y.toNat a = (((lastI L).toNat : Nat) : Int) := by rw [ha']; omega
    have h2 : itF T (lastI L).toNat 1 = (((headI L).toNat : Nat) : Int) := by
      rw [itF_succ, if_pos (it0 T (lastI L).toNat)]
      show T ((((lastI L).toNat : Nat) : Int)).toNat = _
      rw [Int.toNat_natCast, he]; omega
    exact ⟨a + (1 + b), by omega, by rw [it_via h1, it_via h2, hb]; have := h0 z hz; omega⟩
  obtain ⟨c, hc⟩ := Int.eq_ofNat_of_zero_le hhead.1
  obtain ⟨a, ha1, ha2⟩ := least_mem (L := L) (z := c) (by rw [← hc]; exact headI_mem hL)
  rw [sumL_ind (a := (a : Int))]
  · have := hn (a : Int); have := List.count_pos_iff.2 ha1; omega
  · intro z hz
    obtain ⟨x, hx⟩ := Int.eq_ofNat_of_zero_le (h0 z hz).1
    subst hx
    rw [Int.toNat_natCast]
    by_cases e : x = a
    · subst e
      rw [if_pos rfl, if_pos]
      refine leaB_iff.2 ⟨?_, fun i hi hr => ?_⟩
      · obtain ⟨k, h1, h2⟩ := hgo _ hz _ hz
        rw [Int.toNat_natCast] at h2; exact ⟨k, h1, h2⟩
      · obtain ⟨k, hk⟩ := hr
        have := hin _ hz k
        rw [Int.toNat_natCast, hk] at this
        exact ha2 i hi this
    · rw [if_neg (show ¬ (x : Int) = (a : Int) by omega), if_neg]
      intro hl
      have hl := (leaB_iff.1 hl).2
      obtain ⟨k, _, h2⟩ := hgo _ hz _ ha1
      rw [Int.toNat_natCast, Int.toNat_natCast] at h2
      have hax : ¬ x < a := fun h => ha2 x h hz
      exact hl a (by omega) ⟨k, h2⟩
theorem und0 (n : Nat) : Und n 0 (fun _ => -1) := ⟨fun j h => by simp at h, fun j => .inl rfl, fun i j h => absurd rfl h⟩
/-- the chart of some ways -/
theorem wc_chart {Cs Ys : List (List Int)} (hn1 : 1 ≤ n) (hn6 : n ≤ 6) (ho : okSS n 0 (Cs ++ Ys) = true) (hm : orSS 0 (Cs ++ Ys) = 2 ^ n - 1) :
    CH n (lnSS Cs.length (fun _ => -1) (Cs ++ Ys)) ∧ cnt (fun j => decide (lnSS Cs.length (fun _ => -1) (Cs ++ Ys) j ≠ -1)) n + Cs.length = n ∧
    (∀ m, RangeM n (lnSS Cs.length (fun _ => -1) (Cs ++ Ys)) m → (chL (lnSS Cs.length (fun _ => -1) (Cs ++ Ys)) n m n).length = Cs.length ∧
      (cyL (lnSS Cs.length (fun _ => -1) (Cs ++ Ys)) n (orSS 0 (chL (lnSS Cs.length (fun _ => -1) (Cs ++ Ys)) n m n)) n).length = Ys.length) := by
  have hA := all_led Cs Ys 0 (fun _ => -1) (und0 n) ho
  rw [hm] at hA
  generalize lnSS Cs.length (fun _ => -1) (Cs ++ Ys) = T at hA
  have hb : ∀ j, (2 ^ n - 1).testBit j = decide (j < n) := fun j => Nat.testBit_two_pow_sub_one n j
  have hocc : ∀ j : Nat, j < n → occ (Cs ++ Ys) (j : Int) = 1 := fun j hj => hA.occ_ j (by rw [hb, decide_eq_true hj]) (Nat.zero_testBit _)
  have hF : CH n T := ⟨hn1, hn6, fun j hj => by
    rcases hA.und.val j with h | h
    · exact .inl h
    · have := hA.und.lt _ h.2.2; exact .inr ⟨h.2.1, by omega⟩, fun i j _ _ h e => hA.und.inj i j h e⟩
  have hs : cnt (fun j => decide (T j = -1)) n = Cs.length := by
    have h1 := hA.snk_
    have h2 : snk (2 ^ n - 1) T n = cnt (fun j => decide (T j = -1)) n := cnt_congr (fun j hj => by rw [hb, decide_eq_true hj, Bool.true_and])
    have h3 : snk 0 (fun _ => -1) n = 0 := by
      unfold snk
      rw [cnt_congr (Q := fun _ => false) (fun j _ => by rw [Nat.zero_testBit, Bool.false_and])]
      have hc : ∀ m, cnt (fun _ => false) m = 0 := fun m => by
        induction m with
        | zero => rfl
        | succ m ih => rw [cnt_succ, ih]; rfl
      exact hc n
    omega
  refine ⟨hF, ?_, fun m hm => ⟨by rw [chL_total hF hm, hs], ?_⟩⟩
  · have h2 := cnt_not (fun j => decide (T j ≠ -1)) n
    have e2 : cnt (fun j => !decide (T j ≠ -1)) n = cnt (fun i => decide (T i = -1)) n := cnt_congr (fun j _ => by simp)
    omega
  · rw [cyL_count hF (chL_mask hF hm) n (Nat.le_refl _), ← sumP_cnt]
    have h1 : sumP (fun j => if leaB T j = true then 1 else 0) n = sumSS (fun j => if leaB T j = true then 1 else 0) (Cs ++ Ys) := by
      rw [sumSS_occ _ (n := n)]
      · exact sumP_congr (fun j hj => by rw [hocc j hj, Nat.mul_one])
      · intro L hL
        rcases List.mem_append.1 hL with h | h
        · exact (hA.cs L h).2.2.2
        · exact (hA.ys L h).2.2.2
    rw [h1, sumSS_append]
    have h2 : ∀ Ls : List (List Int), (∀ L ∈ Ls, L ∈ Cs) → sumSS (fun j => if leaB T j = true then 1 else 0) Ls = 0 := fun Ls => by
      induction Ls with
      | nil => intro _; rfl
      | cons L Ls ih =>
        intro h
        obtain ⟨a1, a2, a3, a4⟩ := hA.cs L (h L List.mem_cons_self)
        simp only [sumSS]
        rw [ih (fun M hM => h M (List.mem_cons_of_mem _ hM)), sumL_zero (fun z hz => by rw [chain_lea a2 a4 a3 z hz]; rfl)]
    have h3 : ∀ Ls : List (List Int), (∀ L ∈ Ls, L ∈ Ys) → sumSS (fun j => if leaB T j = true then 1 else 0) Ls = Ls.length := fun Ls => by
      induction Ls with
      | nil => intro _; rfl
      | cons L Ls ih =>
        intro h
        have hLY := h L List.mem_cons_self
        obtain ⟨a1, a2, a3, a4⟩ := hA.ys L hLY
        simp only [sumSS, List.length_cons]
        rw [ih (fun M hM => h M (List.mem_cons_of_mem _ hM)), cycle_lea a1 a2 a4 a3 (fun z => ?_)]
        · omega
        · by_cases hz : z ∈ L
          · obtain ⟨x, hx⟩ := Int.eq_ofNat_of_zero_le (a4 z hz).1
            have hzn := (a4 z hz).2
            subst hx
            have := hocc x (by omega)
            have := count_le_occ (z := (x : Int)) (List.mem_append_right Cs hLY)
            omega
          · rw [List.count_eq_zero.2 hz]; omega
    rw [h2 Cs (fun _ h => h), h3 Ys (fun _ h => h), Nat.zero_add]
end
end

end Go.Proofs.YtkfiehndlgplgaaGreatDoor
