/-
  The algebra of charts as lists: turned, products, sets, meets, joins; no program.
-/
import Derived.Test.YtoomeimloaloaaaChart
import Derived.Test.YtoomeimloaloaaaSet
import Derived.Test.YtoomeimloaloaaaSpecC
namespace Go.Proofs.Ytoomeimloaloaaa
set_option maxRecDepth 100000

section
variable {n : Nat} {F G : Nat → Int}

/-! ### counting -/
def cnt (P : Nat → Bool) : Nat → Nat
  | 0 => 0
  | k + 1 => cnt P k + (P k).toNat
theorem cnt_succ (P : Nat → Bool) (k : Nat) : cnt P (k + 1) = cnt P k + (P k).toNat := rfl
theorem cnt_congr {P Q : Nat → Bool} : ∀ {k : Nat}, (∀ j, j < k → P j = Q j) → cnt P k = cnt Q k
  | 0, _ => rfl
  | k + 1, h => by rw [cnt_succ, cnt_succ, cnt_congr (k := k) (fun j hj => h j (by omega)), h k (by omega)]
theorem cnt_mono {P Q : Nat → Bool} : ∀ {k : Nat}, (∀ j, j < k → P j = true → Q j = true) → cnt P k ≤ cnt Q k
  | 0, _ => Nat.le_refl _
  | k + 1, h => by
    rw [cnt_succ, cnt_succ]
    have := cnt_mono (k := k) (fun j hj => h j (by omega))
    have h1 := h k (by omega)
    cases e : P k
    · simp; omega
    · rw [h1 e]; simp; omega
theorem cnt_add {P Q R S : Nat → Bool} : ∀ {k : Nat}, (∀ j, j < k → (P j).toNat + (Q j).toNat = (R j).toNat + (S j).toNat) → cnt P k + cnt Q k = cnt R k + cnt S k
  | 0, _ => rfl
  | k + 1, h => by
    rw [cnt_succ, cnt_succ, cnt_succ, cnt_succ]
    have := cnt_add (k := k) (fun j hj => h j (by omega))
    have := h k (by omega)
    omega
/-- a one-to-one map does not lose points -/
theorem cnt_del {Q : Nat → Bool} {a : Nat} : ∀ {m : Nat}, a < m → Q a = true → cnt Q m = cnt (fun j => Q j && decide (j ≠ a)) m + 1
  | 0, h, _ => absurd h (by omega)
  | m + 1, h, hq => by
    rw [cnt_succ, cnt_succ]
    by_cases e : a = m
    · subst e
      have : cnt (fun j => Q j && decide (j ≠ a)) a = cnt Q a := cnt_congr (fun j hj => by
        have : j ≠ a := by omega
        simp [this])
      rw [this, hq]
      simp
    · rw [cnt_del (m := m) (by omega) hq]
      have : m ≠ a := fun x => e x.symm
      simp [this]; omega
theorem cnt_inj {P : Nat → Bool} {f : Nat → Nat} : ∀ {k m : Nat} {Q : Nat → Bool}, (∀ j, j < k → P j = true → f j < m ∧ Q (f j) = true) → (∀ i j, i < k → j < k → P i = true → P j = true → f i = f j → i = j) → cnt P k ≤ cnt Q m
  | 0, _, _, _, _ => Nat.zero_le _
  | k + 1, m, Q, h, hi => by
    rw [cnt_succ]
    cases e : P k
    · have := cnt_inj (k := k) (Q := Q) (fun j hj => h j (by omega)) (fun i j a b => hi i j (by omega) (by omega))
      simpa using this
    · have hk := h k (by omega) e
      rw [cnt_del hk.1 hk.2]
      have := cnt_inj (k := k) (m := m) (Q := fun j => Q j && decide (j ≠ f k)) (fun j hj hp => by
        have := h j (by omega) hp
        refine ⟨this.1, ?_⟩
        have hne : f j ≠ f k := fun x => by have := hi j k (by omega) (by omega) hp e x; omega
        simp [this.2, hne]) (fun i j a b => hi i j (by omega) (by omega))
      simpa using this

/-! ### turned -/
def trn (n : Nat) (F : Nat → Int) : Nat → Int := turnL n (mv F n)
theorem trn_back : ∀ k, k ≤ n → ∀ m, m < n → turnL n (mv F k) m = -1 ∨ ∃ i : Nat, i < k ∧ turnL n (mv F k) m = i ∧ F i = m
  | 0, _, m, hm => .inl (by simp [mv, turnL, stillF, hm])
  | k + 1, hk, m, hm => by
    by_cases hc : k < 6 ∧ 0 ≤ F k ∧ F k < 6
    · rw [mv_step hc, turnL_snoc]
      unfold turnS
      by_cases e : m = (F k).toNat
      · rw [if_pos e]; exact .inr ⟨k, by omega, rfl, by omega⟩
      · rw [if_neg e]
        rcases trn_back k (by omega) m hm with h | ⟨i, h1, h2, h3⟩
        · exact .inl h
        · exact .inr ⟨i, by omega, h2, h3⟩
    · have e0 : mv F (k + 1) = mv F k := by simp [mv, hc]
      rw [e0]
      rcases trn_back k (by omega) m hm with h | ⟨i, h1, h2, h3⟩
      · exact .inl h
      · exact .inr ⟨i, by omega, h2, h3⟩
theorem trn_iff (h : CH n F) {i m : Nat} (hi : i < n) (hm : m < n) : trn n F m = (i : Int) ↔ F i = (m : Int) := by
  constructor
  · intro e
    rcases trn_back (n := n) (F := F) n (Nat.le_refl _) m hm with h1 | ⟨j, h1, h2, h3⟩
    · unfold trn at e; omega
    · unfold trn at e
      have : i = j := by omega
      rw [this]; exact h3
  · intro e
    have := turn_at h.six h.en h.inj n (Nat.le_refl _) i hi (by omega)
    rw [e] at this
    exact this
theorem trn_en (_h : CH n F) : En n (trn n F) := fun m hm => by
  rcases trn_back (n := n) (F := F) n (Nat.le_refl _) m hm with h1 | ⟨j, h1, h2, h3⟩
  · exact .inl h1
  · right; unfold trn; omega
theorem trn_none (h : CH n F) {m : Nat} (hm : m < n) : trn n F m = -1 ↔ ∀ i, i < n → F i ≠ (m : Int) := by
  constructor
  · intro e i hi hF
    have := (trn_iff h hi hm).2 hF
    omega
  · intro hF
    rcases trn_en h m hm with h1 | h1
    · exact h1
    · obtain ⟨i, hi⟩ := Int.eq_ofNat_of_zero_le h1.1
      exact absurd ((trn_iff h (i := i) (by omega) hm).1 hi) (hF i (by omega))
theorem CH_trn (h : CH n F) : CH n (trn n F) := by
  refine ⟨h.one, h.six, trn_en h, fun i j hi hj h1 he => ?_⟩
  rcases trn_en h i hi with h2 | h2
  · exact absurd h2 h1
  · obtain ⟨a, ha⟩ := Int.eq_ofNat_of_zero_le h2.1
    have e1 := (trn_iff h (i := a) (by omega) hi).1 ha
    have e2 := (trn_iff h (i := a) (by omega) hj).1 (by rw [← he]; exact ha)
    omega
/-- two functions with entries that hit the same points are one -/
theorem en_ext {A B : Nat → Int} (hA : En n A) (hB : En n B) (h : ∀ i j, i < n → j < n → (A j = (i : Int) ↔ B j = (i : Int))) : ∀ j, j < n → A j = B j := fun j hj => by
  rcases hA j hj with h1 | h1
  · rcases hB j hj with h2 | h2
    · omega
    · obtain ⟨a, ha⟩ := Int.eq_ofNat_of_zero_le h2.1
      have := (h a j (by omega) hj).2 ha
      omega
  · obtain ⟨a, ha⟩ := Int.eq_ofNat_of_zero_le h1.1
    have := (h a j (by omega) hj).1 ha
    omega
theorem trn_congr {F' : Nat → Int} (h : ∀ j, j < n → F j = F' j) : trn n F = trn n F' := by unfold trn; rw [mv_congr h]
theorem trn_trn (h : CH n F) : ∀ j, j < n → trn n (trn n F) j = F j :=
  en_ext (trn_en (CH_trn h)) h.en fun i j hi hj => by rw [trn_iff (CH_trn h) hi hj, trn_iff h hj hi]
theorem cmp_iff (h : CH n F) (_hG : En n G) {i j : Nat} (_hi : i < n) (hj : j < n) : cmp n F G j = (i : Int) ↔ ∃ m : Nat, m < n ∧ F j = (m : Int) ∧ G m = (i : Int) := by
  unfold cmp
  rcases h.en j hj with h1 | h1
  · rw [if_neg (by omega)]
    constructor
    · intro e; omega
    · rintro ⟨m, _, e, _⟩; omega
  · rw [if_pos h1]
    obtain ⟨a, ha⟩ := Int.eq_ofNat_of_zero_le h1.1
    rw [ha]
    constructor
    · intro e; exact ⟨a, by omega, rfl, by simpa using e⟩
    · rintro ⟨m, _, e, e2⟩
      have : m = a := by omega
      subst this; simpa using e2
theorem trn_cmp (h : CH n F) (h' : CH n G) : ∀ j, j < n → trn n (cmp n F G) j = cmp n (trn n G) (trn n F) j :=
  en_ext (trn_en (h.cmp h')) (((CH_trn h').cmp (CH_trn h)).en) fun i j hi hj => by
    rw [trn_iff (h.cmp h') hi hj, cmp_iff h h'.en hj hi, cmp_iff (CH_trn h') (CH_trn h).en hi hj]
    constructor
    · rintro ⟨m, hm, e1, e2⟩; exact ⟨m, hm, (trn_iff h' hm hj).2 e2, (trn_iff h hi hm).2 e1⟩
    · rintro ⟨m, hm, e1, e2⟩; exact ⟨m, hm, (trn_iff h hi hm).1 e2, (trn_iff h' hm hj).1 e1⟩
/-- f f' : the points that are moved stay -/
theorem cmp_self (h : CH n F) {j : Nat} (hj : j < n) : cmp n F (trn n F) j = if F j = -1 then -1 else (j : Int) := by
  unfold cmp
  rcases h.en j hj with h1 | h1
  · rw [if_neg (by omega), if_pos h1]
  · rw [if_pos h1, if_neg (by omega)]
    exact (trn_iff h hj (by omega)).2 (by omega)

/-! ### sets -/
theorem dom_bit (hn : n ≤ 6) (hE : En n F) : ∀ k, k ≤ n → ∀ j, (domL (mv F k)).testBit j = (decide (j < k) && decide (F j ≠ -1))
  | 0, _, j => by simp [mv, domL]
  | k + 1, hk, j => by
    have ih := dom_bit hn hE k (by omega) j
    rcases hE k (by omega) with h1 | h1
    · have hc : ¬ (k < 6 ∧ 0 ≤ F k ∧ F k < 6) := by omega
      have e0 : mv F (k + 1) = mv F k := by simp [mv, hc]
      rw [e0, ih]
      by_cases e : j = k
      · subst e; simp [h1]
      · have : (j < k + 1) ↔ (j < k) := by omega
        simp only [this]
    · have hc : k < 6 ∧ 0 ≤ F k ∧ F k < 6 := by omega
      rw [mv_step hc, domL_snoc, Nat.testBit_or, ih, Nat.one_shiftLeft, Nat.testBit_two_pow]
      by_cases e : j = k
      · subst e
        have : F j ≠ -1 := by omega
        simp [this]
      · have h2 : (j < k + 1) ↔ (j < k) := by omega
        have h3 : ¬ (k = j) := fun x => e x.symm
        simp [h2, h3]
theorem cnt_dom (hn : n ≤ 6) (hE : En n F) : popK (domL (mv F n)) 6 = cnt (fun j => decide (F j ≠ -1)) n := by
  have h1 : ∀ m k, popK m k = cnt (fun j => m.testBit j) k := fun m k => by
    induction k with
    | zero => rfl
    | succ k ih => unfold popK cnt; rw [ih]
  rw [h1]
  have h2 : ∀ d, n + d ≤ 6 → cnt (fun j => (domL (mv F n)).testBit j) (n + d) = cnt (fun j => (domL (mv F n)).testBit j) n := fun d => by
    induction d with
    | zero => intro _; rfl
    | succ d ih =>
      intro hd
      rw [← Nat.add_assoc]
      show cnt _ (n + d) + ((domL (mv F n)).testBit (n + d)).toNat = _
      rw [ih (by omega), dom_bit hn hE n (Nat.le_refl _)]
      have : ¬ (n + d < n) := by omega
      simp [this]
  have := h2 (6 - n) (by omega)
  rw [show n + (6 - n) = 6 by omega] at this
  rw [this]
  refine cnt_congr fun j hj => ?_
  rw [dom_bit hn hE n (Nat.le_refl _)]
  simp [hj]
theorem dom_eq (hn : n ≤ 6) (hE : En n F) (hE' : En n G) (h : ∀ j, j < n → (F j = -1 ↔ G j = -1)) : domL (mv F n) = domL (mv G n) := by
  apply Nat.eq_of_testBit_eq
  intro j
  rw [dom_bit hn hE n (Nat.le_refl _), dom_bit hn hE' n (Nat.le_refl _)]
  by_cases hj : j < n
  · have := h j hj
    simp [hj, this]
  · simp [hj]
/-- turned charts move as many points -/
theorem cnt_trn (h : CH n F) : cnt (fun j => decide (trn n F j ≠ -1)) n = cnt (fun j => decide (F j ≠ -1)) n := by
  have one : ∀ {A : Nat → Int}, CH n A → cnt (fun j => decide (A j ≠ -1)) n ≤ cnt (fun j => decide (trn n A j ≠ -1)) n := fun {A} hA => by
    refine cnt_inj (f := fun j => (A j).toNat) (fun j hj hp => ?_) (fun i j hi hj hp hq e => ?_)
    · have hp := of_decide_eq_true hp
      have := (hA.en j hj).resolve_left hp
      refine ⟨by show (A j).toNat < n; omega, decide_eq_true ?_⟩
      have := (trn_iff hA hj (m := (A j).toNat) (by omega)).2 (by omega)
      rw [this]; omega
    · have hp := of_decide_eq_true hp
      have hq := of_decide_eq_true hq
      have h1 := (hA.en i hi).resolve_left hp
      have h2 := (hA.en j hj).resolve_left hq
      exact hA.inj i j hi hj hp (by have : (A i).toNat = (A j).toNat := e; omega)
  refine Nat.le_antisymm ?_ (one h)
  have := one (CH_trn h)
  rwa [cnt_congr (P := fun j => decide (trn n (trn n F) j ≠ -1)) (Q := fun j => decide (F j ≠ -1)) (fun j hj => by rw [trn_trn h j hj])] at this
end

/-! ### lists -/
theorem ofL_ext {f g : List Int} {n : Nat} (hf : f.length = n) (hg : g.length = n) (h : ∀ j, j < n → ofL f j = ofL g j) : f = g := by
  rw [← LT_ofL hf, ← LT_ofL hg]; exact LT_congr h
theorem fT_ofL {f : List Int} (h : isC f = true) : fT f = ofL f := by funext j; exact fT_yes h j
theorem tuL_trn {f : List Int} (h : isC f = true) : tuL f = LT f.length (trn f.length (ofL f)) := by unfold tuL trn; rw [fk_yes h, fT_ofL h]
theorem tuL_len {f : List Int} (h : isC f = true) : (tuL f).length = f.length := by rw [tuL_trn h, LT_length]
theorem tuL_isC {f : List Int} (h : isC f = true) : isC (tuL f) = true := by rw [tuL_trn h]; exact CH_isC (CH_trn (isC_CH h))
theorem tuL_get {f : List Int} (h : isC f = true) {j : Nat} (hj : j < f.length) : ofL (tuL f) j = trn f.length (ofL f) j := by rw [tuL_trn h, ofL_pt _ hj]
theorem doN_dom {f : List Int} (h : isC f = true) : doN f = domL (mv (ofL f) f.length) := by unfold doN; rw [fk_yes h, fT_ofL h]
theorem doN_bit {f : List Int} (h : isC f = true) (j : Nat) : (doN f).testBit j = (decide (j < f.length) && decide (ofL f j ≠ -1)) := by
  rw [doN_dom h]; exact dom_bit (isC_len h).2 (en_ofL h) _ (Nat.le_refl _) j
theorem rank_cnt {f : List Int} (h : isC f = true) : popK (doN f) 6 = cnt (fun j => decide (ofL f j ≠ -1)) f.length := by
  rw [doN_dom h]; exact cnt_dom (isC_len h).2 (en_ofL h)
theorem raN_tu {f : List Int} (h : isC f = true) : raN f = doN (tuL f) := by
  rw [doN_dom (tuL_isC h), tuL_len h]
  unfold raN
  rw [fk_yes h, fT_ofL h, mv_congr (T := ofL (tuL f)) (T' := trn f.length (ofL f)) (fun j hj => tuL_get h hj)]
  rfl
theorem tuL_tuL {f : List Int} (h : isC f = true) : tuL (tuL f) = f := by
  refine ofL_ext (n := f.length) (by rw [tuL_len (tuL_isC h), tuL_len h]) rfl fun j hj => ?_
  rw [tuL_get (tuL_isC h) (by rw [tuL_len h]; exact hj), tuL_len h, trn_congr (fun i hi => tuL_get h hi)]
  exact trn_trn (isC_CH h) j hj
theorem isP_tu {f : List Int} (h : isC f = true) : isP f (tuL f) = true := isP_of h (tuL_isC h) (tuL_len h).symm
theorem tuL_tiL {f g : List Int} (h : isP f g = true) : isP (tuL g) (tuL f) = true ∧ tuL (tiL f g) = tiL (tuL g) (tuL f) := by
  have p := isP_yes h
  have q : isP (tuL g) (tuL f) = true := isP_of (tuL_isC p.2.1) (tuL_isC p.1) (by rw [tuL_len p.1, tuL_len p.2.1, p.2.2])
  have hg := isC_CH p.2.1
  rw [← p.2.2] at hg
  refine ⟨q, ofL_ext (n := f.length) (by rw [tuL_len (tiL_isC h), tiL_len h]) (by rw [tiL_len q, tuL_len p.2.1, p.2.2]) fun j hj => ?_⟩
  rw [tuL_get (tiL_isC h) (by rw [tiL_len h]; exact hj), tiL_len h, tiL_get q (by rw [tuL_len p.2.1, ← p.2.2]; exact hj), tuL_len p.2.1, ← p.2.2,
    trn_congr (fun i hi => tiL_get h hi), trn_cmp (isC_CH p.1) hg j hj]
  exact cmp_congr (fun i hi => by rw [tuL_get p.2.1 (by omega), p.2.2]) (fun i hi => (tuL_get p.1 hi).symm) hj
/-- whether no point is moved to another one -/
def idB (f : List Int) : Bool := isC f && idemL (mv (fT f) (fk f))
theorem idB_iff {f : List Int} (h : isC f = true) : idB f = true ↔ ∀ j, j < f.length → ofL f j = -1 ∨ ofL f j = (j : Int) := by
  unfold idB
  rw [h, Bool.true_and, fk_yes h, fT_ofL h, idem_closed _ _ (isC_len h).2]
  constructor
  · intro a j hj
    rcases en_ofL h j hj with h1 | h1
    · exact .inl h1
    · exact .inr (a j hj h1.1 (by have := (isC_len h).2; omega))
  · intro a j hj h0 _
    rcases a j hj with h1 | h1
    · omega
    · exact h1
theorem tiL_self {f : List Int} (h : isC f = true) {j : Nat} (hj : j < f.length) : ofL (tiL f (tuL f)) j = if ofL f j = -1 then -1 else (j : Int) := by
  rw [tiL_get (isP_tu h) hj, cmp_congr (G' := trn f.length (ofL f)) (fun _ _ => rfl) (fun i hi => tuL_get h hi) hj, cmp_self (isC_CH h) hj]
theorem chart_law {f : List Int} (h : isC f = true) : isP f (tuL f) = true ∧ isP (tiL f (tuL f)) f = true ∧ tiL (tiL f (tuL f)) f = f ∧ idB (tiL f (tuL f)) = true := by
  have p := isP_tu h
  have c := tiL_isC p
  have l := tiL_len p
  have q : isP (tiL f (tuL f)) f = true := isP_of c h l
  refine ⟨p, q, ofL_ext (n := f.length) (by rw [tiL_len q, l]) rfl fun j hj => ?_, (idB_iff c).2 fun j hj => ?_⟩
  · rw [tiL_get q (by omega), l]
    unfold cmp
    rw [tiL_self h hj]
    by_cases e : ofL f j = -1
    · rw [if_pos e, if_neg (by omega), e]
    · rw [if_neg e, if_pos (by omega)]; simp
  · rw [l] at hj
    rw [tiL_self h hj]
    by_cases e : ofL f j = -1
    · rw [if_pos e]; exact .inl rfl
    · rw [if_neg e]; exact .inr rfl
theorem rank_tiL {f g : List Int} (h : isP f g = true) : popK (doN (tiL f g)) 6 ≤ popK (doN f) 6 ∧ popK (doN (tiL f g)) 6 ≤ popK (doN g) 6 := by
  have p := isP_yes h
  have hf := isC_CH p.1
  rw [rank_cnt (tiL_isC h), rank_cnt p.1, rank_cnt p.2.1, tiL_len h]
  have hne : ∀ j, j < f.length → ofL (tiL f g) j ≠ -1 → (0 ≤ ofL f j ∧ ofL f j < f.length) ∧ ofL g (ofL f j).toNat ≠ -1 := fun j hj a => by
    rw [tiL_get h hj] at a
    unfold cmp at a
    by_cases c : 0 ≤ ofL f j ∧ ofL f j < f.length
    · rw [if_pos c] at a; exact ⟨c, a⟩
    · rw [if_neg c] at a; exact absurd rfl a
  constructor
  · refine cnt_mono fun j hj a => ?_
    have := hne j hj (of_decide_eq_true a)
    exact decide_eq_true (by omega)
  · rw [← p.2.2]
    refine cnt_inj (f := fun j => (ofL f j).toNat) (fun j hj a => ?_) (fun i j hi hj a b e => ?_)
    · have := hne j hj (of_decide_eq_true a)
      exact ⟨by show (ofL f j).toNat < _; omega, decide_eq_true this.2⟩
    · have h1 := hne i hi (of_decide_eq_true a)
      have h2 := hne j hj (of_decide_eq_true b)
      exact hf.inj i j hi hj (by omega) (by have : (ofL f i).toNat = (ofL f j).toNat := e; omega)
end Go.Proofs.Ytoomeimloaloaaa
