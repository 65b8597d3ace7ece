/-
  The algebra of charts as lists, second part: sets, cuts, below, meets, compatible charts, joins; no program.
-/
import Derived.Test.YtoomeimloaloaaaAlg
import Derived.Test.YtoomeimloaloaaaBelow
import Derived.Test.YtoomeimloaloaaaJoinB
namespace Go.Proofs.Ytoomeimloaloaaa
set_option maxRecDepth 100000
open Go.RowKit

/-! ### products with themselves -/
theorem idem_law {f : List Int} (h : isC f = true) (hi : idB f = true) : isP f f = true ∧ tiL f f = f ∧ tuL f = f := by
  have p : isP f f = true := isP_of h h rfl
  have hf := isC_CH h
  have hj := (idB_iff h).1 hi
  refine ⟨p, ofL_ext (tiL_len p) rfl fun j hj' => ?_, ofL_ext (tuL_len h) rfl fun j hj' => ?_⟩
  · rw [tiL_get p hj']
    unfold cmp
    rcases hj j hj' with h1 | h1
    · rw [if_neg (by omega), h1]
    · rw [if_pos (by omega), h1]; simpa using h1
  · rw [tuL_get h hj']
    refine en_ext (trn_en hf) hf.en (fun i m hi hm => ?_) j hj'
    rw [trn_iff hf hi hm]
    have a := hj i hi
    have b := hj m hm
    constructor
    · intro e; have : i = m := by omega
      subst this; exact e
    · intro e; have : i = m := by omega
      subst this; exact e
theorem own_law {f : List Int} (h : isC f = true) (e : tiL f f = f) : idB f = true := by
  have p : isP f f = true := isP_of h h rfl
  have hf := isC_CH h
  refine (idB_iff h).2 fun j hj => ?_
  rcases hf.en j hj with h1 | h1
  · exact .inl h1
  · right
    have := tiL_get p hj
    rw [e] at this
    unfold cmp at this
    rw [if_pos h1] at this
    have := hf.inj j (ofL f j).toNat hj (by omega) (by omega) this
    omega

/-! ### sets -/
theorem inS_iff {n : Nat} {s : Int} : inS n s = true ↔ 0 ≤ s ∧ s < 2 ^ n := by unfold inS; simp
theorem nat_lt_pow {m n : Nat} (h : ∀ j, n ≤ j → m.testBit j = false) : m < 2 ^ n := Nat.lt_pow_two_of_testBit m h
theorem doN_lt {f : List Int} (h : isC f = true) : doN f < 2 ^ f.length := nat_lt_pow fun j hj => by rw [doN_bit h]; simp; omega
theorem doN_inS {f : List Int} (h : isC f = true) : inS f.length (doN f : Nat) = true := by
  rw [inS_iff]
  have := doN_lt h
  exact ⟨by omega, by exact_mod_cast this⟩
theorem seL_get {N : Nat} {s : Int} (h : seOK N s = true) {j : Nat} (hj : j < N) : ofL (seL N s) j = if s.toNat.testBit j = true then (j : Int) else -1 := by
  unfold seL; rw [if_pos h]; exact ofL_pt _ (by simpa using hj)
theorem seL_len {N : Nat} {s : Int} (h : seOK N s = true) : (seL N s).length = N := by unfold seL; rw [if_pos h, LT_length]; simp
theorem seOK_iff {N : Nat} {s : Int} : seOK N s = true ↔ (1 ≤ N ∧ N ≤ 6) ∧ 0 ≤ s ∧ s < 2 ^ N := by
  unfold seOK inB
  rw [Bool.and_eq_true, inS_iff, decide_eq_true_iff, Int.toNat_natCast]
  omega
theorem seL_isC {N : Nat} {s : Int} (h : seOK N s = true) : isC (seL N s) = true := by
  have h6 := (seOK_iff.1 h).1
  have : seL N s = LT N (fun j => if s.toNat.testBit j = true then (j : Int) else -1) := by unfold seL; rw [if_pos h]; rfl
  rw [this]
  refine CH_isC ⟨h6.1, h6.2, fun j hj => ?_, fun i j hi hj h1 he => ?_⟩
  · by_cases e : s.toNat.testBit j = true
    · right; simp only [e, if_true]; omega
    · left; simp only [e]; rfl
  · split at h1
    · rw [if_pos (by assumption)] at he
      split at he
      · omega
      · omega
    · exact absurd rfl h1
theorem toNat_testBit {s : Nat} {n : Nat} (hs : s < 2 ^ n) {j : Nat} (hj : n ≤ j) : s.testBit j = false :=
  Nat.testBit_lt_two_pow (Nat.lt_of_lt_of_le hs (Nat.pow_le_pow_right (by decide) hj))
/-- the law of sets -/
theorem set_law {N : Nat} {s : Int} (h : seOK N s = true) : isC (seL N s) = true ∧ ((doN (seL N s) : Nat) : Int) = s ∧ idB (seL N s) = true := by
  have c := seL_isC h
  have l := seL_len h
  obtain ⟨h6, h0, hs⟩ := seOK_iff.1 h
  obtain ⟨m, rfl⟩ := Int.eq_ofNat_of_zero_le h0
  have hm : m < 2 ^ N := by exact_mod_cast hs
  refine ⟨c, ?_, (idB_iff c).2 fun j hj => ?_⟩
  · congr 1
    apply Nat.eq_of_testBit_eq
    intro j
    rw [doN_bit c, l]
    by_cases hj : j < N
    · rw [seL_get h hj, Int.toNat_natCast]
      cases e : m.testBit j
      · simp
      · simp [hj]
    · rw [toNat_testBit hm (by omega)]; simp [hj]
  · rw [l] at hj
    rw [seL_get h hj]
    split
    · exact .inr rfl
    · exact .inl rfl
theorem domain_law {f : List Int} (h : isC f = true) : seOK (f.length : Nat) (doN f : Nat) = true ∧ isP f (tuL f) = true ∧ tiL f (tuL f) = seL (f.length : Nat) (doN f : Nat) := by
  have hl := isC_len h
  have s : seOK (f.length : Nat) (doN f : Nat) = true := by
    rw [seOK_iff]; exact ⟨hl, inS_iff.1 (doN_inS h)⟩
  have p := isP_tu h
  refine ⟨s, p, ofL_ext (tiL_len p) (seL_len s) fun j hj => ?_⟩
  rw [tiL_self h hj, seL_get s hj, Int.toNat_natCast, doN_bit h]
  simp only [hj, decide_true, Bool.true_and, decide_eq_true_eq]
  by_cases e : ofL f j = -1
  · rw [if_pos e, if_neg (by omega)]
  · rw [if_neg e, if_pos e]

/-! ### below, cut -/
theorem beB_iff {f g : List Int} (h : isP f g = true) : beB f g = true ↔ ∀ j, j < f.length → ofL f j = -1 ∨ ofL f j = ofL g j := by
  unfold beB
  rw [h, Bool.true_and, blK_iff]
  have hf := isC_CH (isP_yes h).1
  constructor
  · intro a j hj
    rcases a j hj with h1 | h1
    · rcases hf.en j hj with h2 | h2
      · exact .inl h2
      · omega
    · exact .inr h1
  · intro a j hj
    rcases a j hj with h1 | h1
    · exact .inl (by omega)
    · exact .inr h1
theorem beB_isP {f g : List Int} (h : beB f g = true) : isP f g = true := by unfold beB at h; rw [Bool.and_eq_true] at h; exact h.1
theorem cuOK_iff {f : List Int} {s : Int} : cuOK f s = true ↔ isC f = true ∧ 0 ≤ s ∧ s < 2 ^ f.length := by unfold cuOK; rw [Bool.and_eq_true, inS_iff]
theorem cuL_len {f : List Int} {s : Int} (h : cuOK f s = true) : (cuL f s).length = f.length := by unfold cuL; rw [if_pos h, LT_length]
theorem cuL_get {f : List Int} {s : Int} (h : cuOK f s = true) {j : Nat} (hj : j < f.length) : ofL (cuL f s) j = if s.toNat.testBit j = true then ofL f j else -1 := by
  have c := (cuOK_iff.1 h).1
  have hl := isC_len c
  have he := en_ofL c j hj
  unfold cuL
  rw [if_pos h, ofL_pt _ hj, cut_closed _ _ _ _ _ hl.2]
  unfold stillF
  rw [if_pos hj]
  by_cases e : s.toNat.testBit j = true
  · rw [if_pos e]
    rcases he with h1 | h1
    · rw [if_neg (by omega), h1]
    · rw [if_pos ⟨⟨hj, h1.1, by omega⟩, e⟩]
  · rw [if_neg e, if_neg (fun x => e x.2)]
theorem cuL_isC {f : List Int} {s : Int} (h : cuOK f s = true) : isC (cuL f s) = true := by
  have c := (cuOK_iff.1 h).1
  have hf := isC_CH c
  rw [← LT_ofL (cuL_len h)]
  refine CH_isC ⟨hf.one, hf.six, fun j hj => ?_, fun i j hi hj h1 he => ?_⟩
  · rw [cuL_get h hj]
    split
    · exact hf.en j hj
    · exact .inl rfl
  · rw [cuL_get h hi] at h1 he
    rw [cuL_get h hj] at he
    split at h1
    · rw [if_pos (by assumption)] at he
      split at he
      · exact hf.inj i j hi hj h1 he
      · exact absurd he h1
    · exact absurd rfl h1
theorem below_law {f g : List Int} (h : beB f g = true) : cuOK g (doN f : Nat) = true ∧ cuL g (doN f : Nat) = f ∧ beB (tuL f) (tuL g) = true := by
  have p := beB_isP h
  have q := isP_yes p
  have hb := (beB_iff p).1 h
  have hf := isC_CH q.1
  have hg := isC_CH q.2.1
  rw [← q.2.2] at hg
  have c : cuOK g (doN f : Nat) = true := cuOK_iff.2 ⟨q.2.1, by rw [← q.2.2]; exact inS_iff.1 (doN_inS q.1)⟩
  have pt : isP (tuL f) (tuL g) = true := isP_of (tuL_isC q.1) (tuL_isC q.2.1) (by rw [tuL_len q.1, tuL_len q.2.1, q.2.2])
  refine ⟨c, ofL_ext (n := f.length) (by rw [cuL_len c, q.2.2]) rfl fun j hj => ?_, (beB_iff pt).2 fun j hj => ?_⟩
  · rw [cuL_get c (by omega), Int.toNat_natCast, doN_bit q.1]
    simp only [hj, decide_true, Bool.true_and, decide_eq_true_eq]
    rcases hb j hj with h1 | h1
    · rw [if_neg (by omega), h1]
    · by_cases e : ofL f j = -1
      · rw [if_neg (by omega), e]
      · rw [if_pos e, h1]
  · rw [tuL_len q.1] at hj
    rw [tuL_get q.1 hj, tuL_get q.2.1 (by omega), ← q.2.2]
    rcases trn_en hf j hj with h1 | h1
    · exact .inl h1
    · right
      obtain ⟨i, hi⟩ := Int.eq_ofNat_of_zero_le h1.1
      have e := (trn_iff hf (i := i) (by omega) hj).1 hi
      rw [hi]
      exact ((trn_iff hg (by omega) hj).2 (by rcases hb i (by omega) with h2 | h2
                                              · omega
                                              · rw [← h2]; exact e)).symm
theorem cut_law {f : List Int} {s : Int} (h : cuOK f s = true) : isC (cuL f s) = true ∧ doN (cuL f s) = doN f &&& s.toNat ∧ beB (cuL f s) f = true := by
  have c := (cuOK_iff.1 h).1
  have c' := cuL_isC h
  have l := cuL_len h
  refine ⟨c', ?_, (beB_iff (isP_of c' c l)).2 fun j hj => ?_⟩
  · apply Nat.eq_of_testBit_eq
    intro j
    rw [Nat.testBit_and, doN_bit c', doN_bit c, l]
    by_cases hj : j < f.length
    · rw [cuL_get h hj]
      cases e : s.toNat.testBit j <;> simp
    · simp [hj]
  · rw [l] at hj
    rw [cuL_get h hj]
    split
    · exact .inr rfl
    · exact .inl rfl

/-! ### meets -/
theorem meL_len {f g : List Int} (h : isP f g = true) : (meL f g).length = f.length := by unfold meL; rw [LT_length, pk_yes h]
theorem meL_get {f g : List Int} (h : isP f g = true) {j : Nat} (hj : j < f.length) : ofL (meL f g) j = if ofL g j = ofL f j then ofL f j else -1 := by
  have q := isP_yes h
  have hl := isC_len q.1
  have he := en_ofL q.1 j hj
  unfold meL
  rw [pk_yes h, pF_yes h, pG_yes h, ofL_pt _ hj, meet_closed _ _ _ _ _ hl.2]
  unfold stillF
  rw [if_pos hj]
  by_cases e : ofL g j = ofL f j
  · rw [if_pos e]
    rcases he with h1 | h1
    · rw [if_neg (by omega), h1]
    · rw [if_pos ⟨⟨hj, h1.1, by omega⟩, e⟩]
  · rw [if_neg e, if_neg (fun x => e x.2)]
theorem meL_isC {f g : List Int} (h : isP f g = true) : isC (meL f g) = true := by
  have hf := isC_CH (isP_yes h).1
  rw [← LT_ofL (meL_len h)]
  refine CH_isC ⟨hf.one, hf.six, fun j hj => ?_, fun i j hi hj h1 he => ?_⟩
  · rw [meL_get h hj]
    split
    · exact hf.en j hj
    · exact .inl rfl
  · rw [meL_get h hi] at h1 he
    rw [meL_get h hj] at he
    split at h1
    · rw [if_pos (by assumption)] at he
      split at he
      · exact hf.inj i j hi hj h1 he
      · exact absurd he h1
    · exact absurd rfl h1
theorem meet_law {f g : List Int} (h : isP f g = true) : isP g f = true ∧ meL g f = meL f g ∧ beB (meL f g) f = true ∧ beB (meL f g) g = true ∧ decide (meL f g = f) = beB f g := by
  have q := isP_yes h
  have p : isP g f = true := isP_of q.2.1 q.1 q.2.2.symm
  have l := meL_len h
  have c := meL_isC h
  refine ⟨p, ofL_ext (n := f.length) (by rw [meL_len p, q.2.2]) l fun j hj => ?_, (beB_iff (isP_of c q.1 l)).2 fun j hj => ?_, (beB_iff (isP_of c q.2.1 (by rw [l, q.2.2]))).2 fun j hj => ?_, ?_⟩
  · rw [meL_get p (by omega), meL_get h hj]
    by_cases e : ofL f j = ofL g j
    · rw [if_pos e, if_pos e.symm, e]
    · rw [if_neg e, if_neg (fun x => e x.symm)]
  · rw [l] at hj
    rw [meL_get h hj]
    split
    · exact .inr rfl
    · exact .inl rfl
  · rw [l] at hj
    rw [meL_get h hj]
    split
    · right; rename_i e; exact e.symm
    · exact .inl rfl
  · rw [Bool.eq_iff_iff, decide_eq_true_iff, beB_iff h]
    constructor
    · intro e j hj
      have := meL_get h hj
      rw [e] at this
      split at this
      · right; rename_i e2; exact e2.symm
      · exact .inl this
    · intro a
      refine ofL_ext l rfl fun j hj => ?_
      rw [meL_get h hj]
      rcases a j hj with h1 | h1
      · rw [h1]; split <;> rfl
      · rw [if_pos h1.symm]

/-! ### compatible charts, joins -/
theorem coF_iff {n : Nat} {F G : Nat → Int} (hF : CH n F) (hG : CH n G) : coF n F G = true ↔ (∀ i, i < n → F i ≠ -1 → G i ≠ -1 → F i = G i) ∧ (∀ i j, i < n → j < n → F i ≠ -1 → F i = G j → i = j) := by
  have key : ∀ {A B : Nat → Int}, CH n A → En n B → (idemL (mv (timesL n B (mv A n)) n) = true ↔ ∀ i j : Nat, i < n → j < n → cmp n A B i = (j : Int) → j = i) := fun {A B} hA hB => by
    rw [idem_closed _ n hA.six]
    constructor
    · intro a i j hi hj e
      have := a i hi (by rw [times_cmp hA.six hA.en hi]; omega) (by rw [times_cmp hA.six hA.en hi]; have := hA.six; omega)
      rw [times_cmp hA.six hA.en hi] at this
      omega
    · intro a i hi h0 h6
      rw [times_cmp hA.six hA.en hi] at h0 h6 ⊢
      have hen : cmp n A B i = -1 ∨ (0 ≤ cmp n A B i ∧ cmp n A B i < n) := by
        unfold cmp; split
        · exact hB _ (by omega)
        · exact .inl rfl
      obtain ⟨j, hj⟩ := Int.eq_ofNat_of_zero_le h0
      have := a i j hi (by omega) hj
      rw [hj, this]
  unfold coF
  rw [Bool.and_eq_true]
  rw [show turnL n (mv F n) = trn n F from rfl, show turnL n (mv G n) = trn n G from rfl, key (CH_trn hF) hG.en, key hF (CH_trn hG).en]
  constructor
  · rintro ⟨a, b⟩
    constructor
    · intro i hi h1 h2
      obtain ⟨m, hm⟩ := Int.eq_ofNat_of_zero_le ((hF.en i hi).resolve_left h1).1
      obtain ⟨k, hk⟩ := Int.eq_ofNat_of_zero_le ((hG.en i hi).resolve_left h2).1
      have hmn : m < n := by have := (hF.en i hi).resolve_left h1; omega
      have hkn : k < n := by have := (hG.en i hi).resolve_left h2; omega
      have := a m k hmn hkn ((cmp_iff (CH_trn hF) hG.en hkn hmn).2 ⟨i, hi, (trn_iff hF hi hmn).2 hm, hk⟩)
      omega
    · intro i j hi hj h1 he
      obtain ⟨m, hm⟩ := Int.eq_ofNat_of_zero_le ((hF.en i hi).resolve_left h1).1
      have hmn : m < n := by have := (hF.en i hi).resolve_left h1; omega
      exact (b i j hi hj ((cmp_iff hF (CH_trn hG).en hj hi).2 ⟨m, hmn, hm, (trn_iff hG hj hmn).2 (by omega)⟩)).symm
  · rintro ⟨a, b⟩
    constructor
    · intro m k hm hk e
      obtain ⟨i, hi, e1, e2⟩ := (cmp_iff (CH_trn hF) hG.en hk hm).1 e
      have e3 := (trn_iff hF hi hm).1 e1
      have := a i hi (by omega) (by omega)
      omega
    · intro i j hi hj e
      obtain ⟨m, hm, e1, e2⟩ := (cmp_iff hF (CH_trn hG).en hj hi).1 e
      have e3 := (trn_iff hG hj hm).1 e2
      exact (b i j hi hj (by omega) (by omega)).symm
theorem coB_isP {f g : List Int} (h : coB f g = true) : isP f g = true := by unfold coB at h; rw [Bool.and_eq_true] at h; exact h.1
theorem coB_iff {f g : List Int} (h : isP f g = true) : coB f g = true ↔ (∀ i, i < f.length → ofL f i ≠ -1 → ofL g i ≠ -1 → ofL f i = ofL g i) ∧ (∀ i j, i < f.length → j < f.length → ofL f i ≠ -1 → ofL f i = ofL g j → i = j) := by
  have q := isP_yes h
  have hg := isC_CH q.2.1
  rw [← q.2.2] at hg
  unfold coB
  rw [h, Bool.true_and, pk_yes h, pF_yes h, pG_yes h]
  exact coF_iff (isC_CH q.1) hg
theorem comp_law {f g : List Int} (h : coB f g = true) : coB g f = true ∧ isC f = true ∧ isC g = true ∧ coB (tuL f) (tuL g) = true := by
  have p := coB_isP h
  have q := isP_yes p
  have hf := isC_CH q.1
  have hg := isC_CH q.2.1
  rw [← q.2.2] at hg
  obtain ⟨a, b⟩ := (coB_iff p).1 h
  have p' : isP g f = true := isP_of q.2.1 q.1 q.2.2.symm
  have pt : isP (tuL f) (tuL g) = true := isP_of (tuL_isC q.1) (tuL_isC q.2.1) (by rw [tuL_len q.1, tuL_len q.2.1, q.2.2])
  have gf : ∀ {i}, i < f.length → ofL (tuL f) i = trn f.length (ofL f) i := fun hi => tuL_get q.1 hi
  have gg : ∀ {i}, i < f.length → ofL (tuL g) i = trn f.length (ofL g) i := fun hi => by rw [tuL_get q.2.1 (by omega), q.2.2]
  refine ⟨(coB_iff p').2 ⟨fun i hi h1 h2 => (a i (by omega) h2 h1).symm, fun i j hi hj h1 he => (b j i (by omega) (by omega) (by omega) he.symm).symm⟩, q.1, q.2.1, (coB_iff pt).2 ?_⟩
  rw [tuL_len q.1]
  refine ⟨fun m hm h1 h2 => ?_, fun m k hm hk h1 he => ?_⟩
  · rw [gf hm] at h1 ⊢
    rw [gg hm] at h2 ⊢
    obtain ⟨i, hi⟩ := Int.eq_ofNat_of_zero_le ((trn_en hf m hm).resolve_left h1).1
    obtain ⟨j, hj⟩ := Int.eq_ofNat_of_zero_le ((trn_en hg m hm).resolve_left h2).1
    have hin : i < f.length := by have := (trn_en hf m hm).resolve_left h1; omega
    have hjn : j < f.length := by have := (trn_en hg m hm).resolve_left h2; omega
    have e1 := (trn_iff hf hin hm).1 hi
    have e2 := (trn_iff hg hjn hm).1 hj
    have := b i j hin hjn (by omega) (by omega)
    omega
  · rw [gf hm] at h1 he
    rw [gg hk] at he
    obtain ⟨i, hi⟩ := Int.eq_ofNat_of_zero_le ((trn_en hf m hm).resolve_left h1).1
    have hin : i < f.length := by have := (trn_en hf m hm).resolve_left h1; omega
    have e1 := (trn_iff hf hin hm).1 hi
    have e2 := (trn_iff hg hin hk).1 (by omega)
    have := a i hin (by omega) (by omega)
    omega
theorem joL_len {f g : List Int} (h : coB f g = true) : (joL f g).length = f.length := by unfold joL; rw [if_pos h, LT_length]
theorem joL_get {f g : List Int} (h : coB f g = true) {j : Nat} (hj : j < f.length) : ofL (joL f g) j = if ofL g j = -1 then ofL f j else ofL g j := by
  have q := isP_yes (coB_isP h)
  have hl := isC_len q.1
  have he := en_ofL q.2.1 j (by omega)
  unfold joL
  rw [if_pos h, ofL_pt _ hj, join_closed _ _ _ _ hl.2]
  rcases he with h1 | h1
  · rw [if_neg (by omega), if_pos h1]
  · rw [if_pos ⟨hj, h1.1, by omega⟩, if_neg (by omega)]
theorem joL_isC {f g : List Int} (h : coB f g = true) : isC (joL f g) = true := by
  have p := coB_isP h
  have q := isP_yes p
  have hf := isC_CH q.1
  have hg := isC_CH q.2.1
  rw [← q.2.2] at hg
  obtain ⟨a, b⟩ := (coB_iff p).1 h
  rw [← LT_ofL (joL_len h)]
  refine CH_isC ⟨hf.one, hf.six, fun j hj => ?_, fun i j hi hj h1 he => ?_⟩
  · rw [joL_get h hj]
    split
    · exact hf.en j hj
    · exact hg.en j hj
  · rw [joL_get h hi] at h1 he
    rw [joL_get h hj] at he
    by_cases e : ofL g i = -1
    · rw [if_pos e] at h1 he
      by_cases e' : ofL g j = -1
      · rw [if_pos e'] at he; exact hf.inj i j hi hj h1 he
      · rw [if_neg e'] at he; exact b i j hi hj h1 he
    · rw [if_neg e] at h1 he
      by_cases e' : ofL g j = -1
      · rw [if_pos e'] at he; exact (b j i hj hi (by omega) he.symm).symm
      · rw [if_neg e'] at he; exact hg.inj i j hi hj h1 he
theorem join_law {f g : List Int} (h : coB f g = true) : coB g f = true ∧ joL g f = joL f g ∧ isP f g = true ∧ isC (joL f g) = true ∧ isC (meL f g) = true ∧ isC f = true ∧ isC g = true ∧ beB f (joL f g) = true ∧ beB g (joL f g) = true ∧
    popK (doN (joL f g)) 6 + popK (doN (meL f g)) 6 = popK (doN f) 6 + popK (doN g) 6 := by
  have p := coB_isP h
  have q := isP_yes p
  obtain ⟨a, b⟩ := (coB_iff p).1 h
  have s := (comp_law h).1
  have c := joL_isC h
  have l := joL_len h
  refine ⟨s, ofL_ext (n := f.length) (by rw [joL_len s, q.2.2]) l fun j hj => ?_, p, c, meL_isC p, q.1, q.2.1, (beB_iff (isP_of q.1 c l.symm)).2 fun j hj => ?_, (beB_iff (isP_of q.2.1 c (by rw [l, q.2.2]))).2 fun j hj => ?_, ?_⟩
  · rw [joL_get s (by omega), joL_get h hj]
    by_cases e : ofL f j = -1
    · by_cases e' : ofL g j = -1
      · rw [if_pos e, if_pos e', e, e']
      · rw [if_pos e, if_neg e']
    · by_cases e' : ofL g j = -1
      · rw [if_neg e, if_pos e']
      · rw [if_neg e, if_neg e']; exact a j hj e e'
  · rw [joL_get h hj]
    by_cases e : ofL f j = -1
    · exact .inl e
    · right
      by_cases e' : ofL g j = -1
      · rw [if_pos e']
      · rw [if_neg e']; exact a j hj e e'
  · rw [joL_get h (by omega)]
    by_cases e' : ofL g j = -1
    · exact .inl e'
    · rw [if_neg e']; exact .inr rfl
  · rw [rank_cnt c, rank_cnt (meL_isC p), rank_cnt q.1, rank_cnt q.2.1, l, meL_len p, ← q.2.2]
    refine cnt_add fun j hj => ?_
    rw [joL_get h hj, meL_get p hj]
    by_cases e : ofL f j = -1
    · by_cases e' : ofL g j = -1
      · simp [e, e']
      · simp [e, e']
    · by_cases e' : ofL g j = -1
      · have : ¬ (-1 = ofL f j) := fun x => e x.symm
        simp [e, e', this]
      · have := a j hj e e'
        simp [e', this]

/-! ### ranks -/
theorem full_fin : ∀ (n : Fin 7) (s : Fin 64), s.val < 2 ^ n.val → decide (popK s.val 6 = n.val) = decide (s.val + 1 = 2 ^ n.val) := by decide +kernel
theorem rank_full {f : List Int} (h : isC f = true) : decide (popK (doN f) 6 = f.length) = decide (doN f + 1 = 2 ^ f.length) := by
  have hl := isC_len h
  have hd := doN_lt h
  have h6 : 2 ^ f.length ≤ 2 ^ 6 := Nat.pow_le_pow_right (by decide) hl.2
  exact full_fin ⟨f.length, by omega⟩ ⟨doN f, by omega⟩ hd
theorem range_law {f : List Int} (h : isC f = true) : popK (doN f) 6 = popK (raN f) 6 := by
  rw [raN_tu h, rank_cnt h, rank_cnt (tuL_isC h), tuL_len h]
  rw [cnt_congr (P := fun j => decide (ofL (tuL f) j ≠ -1)) (Q := fun j => decide (trn f.length (ofL f) j ≠ -1)) (fun j hj => by rw [tuL_get h hj])]
  exact (cnt_trn (isC_CH h)).symm
theorem turned_law {f : List Int} (h : isC f = true) : isC (tuL f) = true ∧ tuL (tuL f) = f ∧ doN (tuL f) = raN f := ⟨tuL_isC h, tuL_tuL h, (raN_tu h).symm⟩
theorem idB_def (f : List Int) : (isC f && idemL (mv (fT f) (fk f))) = idB f := rfl
theorem doN_64 (f : List Int) : doN f < 64 := domL_lt _
theorem raN_64 (f : List Int) : raN f < 64 := domL_lt _
theorem cut_small {f : List Int} (h : isC f = true) {m : Nat} (hm : (m : Int) < 2 ^ f.length) : m < 64 := by
  have h1 : m < 2 ^ f.length := by exact_mod_cast hm
  have : 2 ^ f.length ≤ 2 ^ 6 := Nat.pow_le_pow_right (by decide) (isC_len h).2
  omega
theorem one_shl : ∀ n : Nat, n ≤ 6 → wrap64 ((2 : Int) ^ n) = ((2 ^ n : Nat) : Int) ∧ 1 ≤ 2 ^ n ∧ 2 ^ n ≤ 64
  | 0, _ => by decide +kernel
  | 1, _ => by decide +kernel
  | 2, _ => by decide +kernel
  | 3, _ => by decide +kernel
  | 4, _ => by decide +kernel
  | 5, _ => by decide +kernel
  | 6, _ => by decide +kernel
  | n + 7, h => absurd h (by omega)
theorem rank_law {f : List Int} (h : isC f = true) : ((((popK (doN f) 6 : Nat) : Int) == (f.length : Int)) == (((doN f : Nat) : Int) == wrap64 (wrap64 ((2 : Int) ^ min f.length 64) - 1))) = true := by
  have hl := isC_len h
  rw [show min f.length 64 = f.length from by omega]
  obtain ⟨h1, h2, h3⟩ := one_shl f.length hl.2
  have hr := rank_full h
  rw [h1]
  generalize 2 ^ f.length = P at *
  have hw : wrap64 ((P : Int) - 1) = (P : Int) - 1 := by unfold wrap64; omega
  rw [hw, beq_iff_eq, Bool.eq_iff_iff, beq_iff_eq, beq_iff_eq]
  rw [Bool.eq_iff_iff, decide_eq_true_iff, decide_eq_true_iff] at hr
  omega
end Go.Proofs.Ytoomeimloaloaaa
