/-
  Shapes stay when a chart is turned and when it is moved to another place; index and period come of them; no program.
-/
import Derived.Test.YtckppfgooflooaaWayC
namespace Go.Proofs.Ytckppfgooflooaa
set_option maxRecDepth 100000

theorem sumP_cnt (P : Nat → Bool) : ∀ k, sumP (fun j => if P j = true then 1 else 0) k = cnt P k
  | 0 => rfl
  | k + 1 => by
    rw [cnt_succ]; simp only [sumP]; rw [sumP_cnt P k]
    cases P k <;> simp
theorem rk_cnt (n : Nat) (F : Nat → Int) (k : Nat) : rkF n F k = cnt (fun j => decide (0 ≤ itF F j k)) n := by
  unfold rkF; rw [← sumP_cnt]; exact sumP_congr (fun j _ => by simp)
theorem fx_cnt (n : Nat) (F : Nat → Int) (k : Nat) : fxF n F k = cnt (fun j => decide (itF F j k = (j : Int))) n := by
  unfold fxF; rw [← sumP_cnt]; exact sumP_congr (fun j _ => by simp)
theorem cnt_all {P : Nat → Bool} : ∀ {k : Nat}, cnt P k = k → ∀ j, j < k → P j = true
  | 0, _, j, hj => by omega
  | k + 1, h, j, hj => by
    have hle : ∀ m, cnt P m ≤ m := fun m => by
      induction m with
      | zero => exact Nat.le_refl _
      | succ m ih => rw [cnt_succ]; cases P m <;> simp <;> omega
    have := hle k
    rw [cnt_succ] at h
    cases e : P k
    · rw [e] at h; simp at h; omega
    · rw [e] at h; simp at h
      by_cases hjk : j = k
      · subst hjk; exact e
      · exact cnt_all h j (by omega)
theorem cnt_eq {P Q : Nat → Bool} : ∀ {k : Nat}, (∀ j, j < k → P j = true → Q j = true) → cnt P k = cnt Q k → ∀ j, j < k → Q j = true → P j = true
  | 0, _, _, j, hj, _ => by omega
  | k + 1, h, he, j, hj, hq => by
    have hm := cnt_mono (P := P) (Q := Q) (k := k) (fun j hj => h j (by omega))
    rw [cnt_succ, cnt_succ] at he
    have hk := h k (by omega)
    have hp : P k = Q k ∧ cnt P k = cnt Q k := by
      cases e : P k <;> cases e' : Q k <;> simp [e, e'] at he hk ⊢ <;> omega
    by_cases hjk : j = k
    · subst hjk; rw [hp.1]; exact hq
    · exact cnt_eq (fun j hj => h j (by omega)) hp.2 j (by omega) hq

section
variable {n : Nat} {F G S : Nat → Int} {s j : Nat}
theorem it_congr (hF : CH n F) (h : ∀ j, j < n → F j = G j) (hs : s < n) : ∀ k, itF F s k = itF G s k
  | 0 => rfl
  | k + 1 => by
    rw [itF_succ, itF_succ, ← it_congr hF h hs k]
    by_cases hc : 0 ≤ itF F s k
    · have := (itF_en hF.en hs k).resolve_left (by omega)
      rw [if_pos hc, if_pos hc, h _ (by omega)]
    · rw [if_neg hc, if_neg hc]
theorem rk_congr (hF : CH n F) (h : ∀ j, j < n → F j = G j) (k : Nat) : rkF n F k = rkF n G k := sumP_congr (fun j hj => by rw [it_congr hF h hj])
theorem fx_congr (hF : CH n F) (h : ∀ j, j < n → F j = G j) (k : Nat) : fxF n F k = fxF n G k := sumP_congr (fun j hj => by rw [it_congr hF h hj])
theorem rk_turn_le (hF : CH n F) (k : Nat) : rkF n (trn n F) k ≤ rkF n F k := by
  have hT := CH_trn hF
  rw [rk_cnt, rk_cnt]
  refine cnt_inj (f := fun j => (itF (trn n F) j k).toNat) (fun j hj hp => ?_) (fun i j hi hj hp hq e => ?_)
  · have hp := of_decide_eq_true hp
    have := (itF_en hT.en hj k).resolve_left (by omega)
    refine ⟨by show (itF (trn n F) j k).toNat < n; omega, decide_eq_true ?_⟩
    rw [it_turn hF hj k hp]; omega
  · have hp := of_decide_eq_true hp
    have hq := of_decide_eq_true hq
    have a := it_turn hF hi k hp
    have b := it_turn hF hj k hq
    have e : (itF (trn n F) i k).toNat = (itF (trn n F) j k).toNat := e
    rw [e, b] at a; omega
theorem rk_turn (hF : CH n F) (k : Nat) : rkF n (trn n F) k = rkF n F k := by
  have h1 := rk_turn_le hF k
  have h2 := rk_turn_le (CH_trn hF) k
  rw [rk_congr (CH_trn (CH_trn hF)) (trn_trn hF)] at h2
  omega
theorem fx_turn (hF : CH n F) (k : Nat) : fxF n (trn n F) k = fxF n F k := by
  have one : ∀ {A : Nat → Int}, CH n A → ∀ j, j < n → itF (trn n A) j k = (j : Int) → itF A j k = (j : Int) := fun {A} hA j hj e => by
    have := it_turn hA hj k (by omega)
    rw [e, Int.toNat_natCast] at this; exact this
  refine sumP_congr (fun j hj => ?_)
  by_cases h : itF F j k = (j : Int)
  · rw [if_pos h, if_pos]
    refine one (CH_trn hF) j hj ?_
    rw [it_congr (CH_trn (CH_trn hF)) (trn_trn hF) hj]; exact h
  · rw [if_neg h, if_neg (fun h' => h (one hF j hj h'))]

/-! ### moved to another place -/
def cjF (n : Nat) (S G : Nat → Int) : Nat → Int := cmp n (cmp n (trn n S) G) S
theorem cj_at (hS : CH n S) (hG : CH n G) (hf : ∀ j, j < n → S j ≠ -1) (hj : j < n) : cjF n S G (S j).toNat = if 0 ≤ G j then S (G j).toNat else -1 := by
  have h1 := (hS.en j hj).resolve_left (hf j hj)
  obtain ⟨y, hy⟩ := Int.eq_ofNat_of_zero_le h1.1
  have hyn : y < n := by omega
  have h2 : trn n S y = (j : Int) := (trn_iff hS hj hyn).2 hy
  rw [hy, Int.toNat_natCast]
  unfold cjF cmp
  rw [h2, Int.toNat_natCast, if_pos (show 0 ≤ (j : Int) ∧ (j : Int) < n by omega)]
  rcases hG.en j hj with h3 | h3
  · rw [h3]; rfl
  · rw [if_pos h3, if_pos h3.1]
theorem cj_it (hS : CH n S) (hG : CH n G) (hf : ∀ j, j < n → S j ≠ -1) (hj : j < n) : ∀ k, itF (cjF n S G) (S j).toNat k = if 0 ≤ itF G j k then S (itF G j k).toNat else -1
  | 0 => by
    have h1 := (hS.en j hj).resolve_left (hf j hj)
    rw [if_pos (show (0 : Int) ≤ itF G j 0 by simp [itF])]
    show (((S j).toNat : Nat) : Int) = S ((j : Int)).toNat
    rw [Int.toNat_natCast]; omega
  | k + 1 => by
    rw [itF_succ, cj_it hS hG hf hj k]
    by_cases hc : 0 ≤ itF G j k
    · have h2 := (itF_en hG.en hj k).resolve_left (by omega)
      have hlt : (itF G j k).toNat < n := by omega
      have h1 := (hS.en _ hlt).resolve_left (hf _ hlt)
      rw [if_pos hc, if_pos h1.1, cj_at hS hG hf hlt, itF_succ, if_pos hc]
    · rw [if_neg hc, if_neg (by omega), itF_succ, if_neg hc, if_neg (by omega)]
theorem full_trn (hS : CH n S) (hf : ∀ j, j < n → S j ≠ -1) : ∀ j, j < n → trn n S j ≠ -1 := fun j hj => by
  have h := cnt_trn hS
  have h1 : cnt (fun j => decide (S j ≠ -1)) n = n := by
    rw [cnt_congr (Q := fun _ => true) (fun j hj => decide_eq_true (hf j hj))]
    have hc : ∀ m, cnt (fun _ => true) m = m := fun m => by
      induction m with
      | zero => rfl
      | succ m ih => rw [cnt_succ, ih]; rfl
    exact hc n
  exact of_decide_eq_true (cnt_all (h.trans h1) j hj)
theorem full_at (hS : CH n S) (hf : ∀ j, j < n → S j ≠ -1) {i : Nat} (hi : i < n) : ∃ j, j < n ∧ S j = (i : Int) := by
  have h := ((CH_trn hS).en i hi).resolve_left (full_trn hS hf i hi)
  obtain ⟨y, hy⟩ := Int.eq_ofNat_of_zero_le h.1
  exact ⟨y, by omega, (trn_iff hS (by omega) hi).1 hy⟩
/-- a count over places told by a full chart -/
theorem cnt_full (hS : CH n S) (hf : ∀ j, j < n → S j ≠ -1) {P Q : Nat → Bool} (h : ∀ j, j < n → (P j = true ↔ Q (S j).toNat = true)) : cnt P n = cnt Q n := by
  refine Nat.le_antisymm (cnt_inj (f := fun j => (S j).toNat) (fun j hj hp => ?_) (fun i j hi hj _ _ e => ?_)) (cnt_inj (f := fun j => (trn n S j).toNat) (fun i hi hq => ?_) (fun i j hi hj _ _ e => ?_))
  · have h1 := (hS.en j hj).resolve_left (hf j hj)
    exact ⟨by show (S j).toNat < n; omega, (h j hj).1 hp⟩
  · have h1 := (hS.en i hi).resolve_left (hf i hi)
    have h2 := (hS.en j hj).resolve_left (hf j hj)
    have e : (S i).toNat = (S j).toNat := e
    exact hS.inj i j hi hj (hf i hi) (by omega)
  · obtain ⟨j, hj, e⟩ := full_at hS hf hi
    have h2 : trn n S i = (j : Int) := (trn_iff hS hj hi).2 e
    refine ⟨by show (trn n S i).toNat < n; rw [h2]; omega, ?_⟩
    show P (trn n S i).toNat = true
    rw [h2, Int.toNat_natCast, h j hj, e, Int.toNat_natCast]; exact hq
  · obtain ⟨a, ha, ea⟩ := full_at hS hf hi
    obtain ⟨b, hb, eb⟩ := full_at hS hf hj
    have h2 : trn n S i = (a : Int) := (trn_iff hS ha hi).2 ea
    have h3 : trn n S j = (b : Int) := (trn_iff hS hb hj).2 eb
    have e : (trn n S i).toNat = (trn n S j).toNat := e
    rw [h2, h3] at e
    have : a = b := by omega
    subst this; omega
theorem rk_cj (hS : CH n S) (hG : CH n G) (hf : ∀ j, j < n → S j ≠ -1) (k : Nat) : rkF n G k = rkF n (cjF n S G) k := by
  rw [rk_cnt, rk_cnt]
  refine cnt_full hS hf (fun j hj => ?_)
  simp only [decide_eq_true_eq]
  rw [cj_it hS hG hf hj k]
  by_cases hc : 0 ≤ itF G j k
  · have h2 := (itF_en hG.en hj k).resolve_left (by omega)
    have hlt : (itF G j k).toNat < n := by omega
    have h1 := (hS.en _ hlt).resolve_left (hf _ hlt)
    rw [if_pos hc]; exact ⟨fun _ => h1.1, fun _ => hc⟩
  · rw [if_neg hc]; exact ⟨fun h => absurd h hc, fun h => by omega⟩
theorem fx_cj (hS : CH n S) (hG : CH n G) (hf : ∀ j, j < n → S j ≠ -1) (k : Nat) : fxF n G k = fxF n (cjF n S G) k := by
  rw [fx_cnt, fx_cnt]
  refine cnt_full hS hf (fun j hj => ?_)
  simp only [decide_eq_true_eq]
  rw [cj_it hS hG hf hj k]
  have h0 := (hS.en j hj).resolve_left (hf j hj)
  by_cases hc : 0 ≤ itF G j k
  · have h2 := (itF_en hG.en hj k).resolve_left (by omega)
    have hlt : (itF G j k).toNat < n := by omega
    have h1 := (hS.en _ hlt).resolve_left (hf _ hlt)
    rw [if_pos hc]
    constructor
    · intro e; rw [e, Int.toNat_natCast]; omega
    · intro e
      have := hS.inj (itF G j k).toNat j hlt hj (hf _ hlt) (by omega)
      omega
  · rw [if_neg hc]; constructor <;> intro e <;> omega

/-! ### index and period -/
/-- the least number from k on, within d, that P holds for -/
def lst (P : Nat → Bool) : Nat → Nat → Nat
  | 0, k => k
  | d + 1, k => if P k = true then k else lst P d (k + 1)
theorem lst_spec {P : Nat → Bool} : ∀ d k, (∃ i, k ≤ i ∧ i < k + d ∧ P i = true) → P (lst P d k) = true ∧ k ≤ lst P d k ∧ lst P d k < k + d ∧ ∀ i, k ≤ i → i < lst P d k → P i = false
  | 0, k, ⟨i, h1, h2, _⟩ => by omega
  | d + 1, k, ⟨i, h1, h2, h3⟩ => by
    unfold lst
    by_cases hc : P k = true
    · rw [if_pos hc]; exact ⟨hc, Nat.le_refl _, by omega, fun i h1 h2 => by omega⟩
    · rw [if_neg hc]
      have hik : i ≠ k := fun e => hc (e ▸ h3)
      have ih := lst_spec d (k + 1) ⟨i, by omega, by omega, h3⟩
      refine ⟨ih.1, by omega, by omega, fun a h4 h5 => ?_⟩
      by_cases e : a = k
      · subst e; simpa using hc
      · exact ih.2.2.2 a (by omega) h5
theorem lst_congr {P Q : Nat → Bool} (h : ∀ i, P i = Q i) (d k : Nat) : lst P d k = lst Q d k := by rw [show P = Q from funext h]
theorem lst_is {P : Nat → Bool} {d k a : Nat} (h1 : k ≤ a) (h2 : a < k + d) (h3 : P a = true) (h4 : ∀ i, k ≤ i → i < a → P i = false) : lst P d k = a := by
  have hs := lst_spec (P := P) d k ⟨a, h1, h2, h3⟩
  rcases Nat.lt_trichotomy (lst P d k) a with h | h | h
  · rw [h4 _ hs.2.1 h] at hs; exact absurd hs.1 (by simp)
  · exact h
  · rw [hs.2.2.2 a h1 h] at h3; cases h3
def idxF (n : Nat) (F : Nat → Int) : Nat := lst (fun k => decide (rkF n F k = rkF n F (k + 1))) 8 0
def perF (n : Nat) (F : Nat → Int) : Nat := lst (fun p => decide (fxF n F p = rkF n F (idxF n F))) 61 1
theorem rk_mono (k : Nat) : rkF n F (k + 1) ≤ rkF n F k := by
  rw [rk_cnt, rk_cnt]
  exact cnt_mono (fun j _ h => decide_eq_true (itF_down k 1 (of_decide_eq_true h)))
theorem cnt_le (P : Nat → Bool) : ∀ m, cnt P m ≤ m
  | 0 => Nat.le_refl _
  | m + 1 => by have := cnt_le P m; rw [cnt_succ]; cases P m <;> simp <;> omega
theorem idx_ex (hF : CH n F) : ∃ i, 0 ≤ i ∧ i < 0 + 8 ∧ decide (rkF n F i = rkF n F (i + 1)) = true := by
  apply Classical.byContradiction
  intro hno
  have h : ∀ i, i < 8 → rkF n F (i + 1) + 1 ≤ rkF n F i := fun i hi => by
    have := rk_mono (n := n) (F := F) i
    by_cases e : rkF n F i = rkF n F (i + 1)
    · exact absurd ⟨i, by omega, by omega, decide_eq_true e⟩ hno
    · omega
  have h0 : rkF n F 0 ≤ n := by rw [rk_cnt]; exact cnt_le _ _
  have h6 := hF.six
  have a0 : rkF n F 1 + 1 ≤ rkF n F 0 := h 0 (by omega)
  have a1 : rkF n F 2 + 1 ≤ rkF n F 1 := h 1 (by omega)
  have a2 : rkF n F 3 + 1 ≤ rkF n F 2 := h 2 (by omega)
  have a3 : rkF n F 4 + 1 ≤ rkF n F 3 := h 3 (by omega)
  have a4 : rkF n F 5 + 1 ≤ rkF n F 4 := h 4 (by omega)
  have a5 : rkF n F 6 + 1 ≤ rkF n F 5 := h 5 (by omega)
  have a6 : rkF n F 7 + 1 ≤ rkF n F 6 := h 6 (by omega)
  omega
theorem idx_spec (hF : CH n F) : rkF n F (idxF n F) = rkF n F (idxF n F + 1) ∧ idxF n F ≤ n ∧ ∀ i, i < idxF n F → rkF n F i ≠ rkF n F (i + 1) := by
  have h := lst_spec 8 0 (idx_ex hF)
  have hmin : ∀ i, i < idxF n F → rkF n F i ≠ rkF n F (i + 1) := fun i hi => of_decide_eq_false (h.2.2.2 i (by omega) hi)
  refine ⟨of_decide_eq_true h.1, ?_, hmin⟩
  have hle : ∀ k, k ≤ idxF n F → rkF n F k + k ≤ n := fun k => by
    induction k with
    | zero => intro _; have : rkF n F 0 ≤ n := by rw [rk_cnt]; exact cnt_le _ _
              omega
    | succ k ih => intro hk; have := ih (by omega); have := hmin k (by omega); have := rk_mono (n := n) (F := F) k; omega
  have := hle _ (Nat.le_refl _)
  omega
/-- at an index: what is moved so often comes back -/
theorem idx_cyc (hF : CH n F) {k : Nat} (hk : rkF n F k = rkF n F (k + 1)) (hj : j < n) : 0 ≤ itF F j k ↔ Cyc F j := by
  constructor
  · intro h
    have hst : ∀ i, i < n → pwF n F k i ≠ -1 → pwF n F (k + 1) i ≠ -1 := fun i hi he => by
      rw [rk_cnt, rk_cnt] at hk
      have := cnt_eq (P := fun j => decide (0 ≤ itF F j (k + 1))) (Q := fun j => decide (0 ≤ itF F j k)) (fun j _ h => decide_eq_true (itF_down k 1 (of_decide_eq_true h))) hk.symm i hi
        (decide_eq_true (by rw [pw_it hF hi] at he; exact ((itF_en hF.en hi k).resolve_left he).1))
      have := of_decide_eq_true this
      rw [pw_it hF hi]; omega
    have h1 := stable hF hst n j hj (by rw [pw_it hF hj]; omega)
    rw [pw_it hF hj] at h1
    have h2 := ((itF_en hF.en hj (k + n)).resolve_left h1).1
    rw [Nat.add_comm] at h2
    have h3 := itF_down n k h2
    obtain ⟨p, h4, _, h5⟩ := it_cycle hF hj h3
    exact ⟨p, h4, h5⟩
  · intro h; exact h.pos k
theorem pow_back (hF : CH n F) {k p : Nat} (hk : rkF n F k = rkF n F (k + 1)) (hp : 1 ≤ p) : (∀ j, j < n → pwF n F (k + p) j = pwF n F k j) ↔ fxF n F p = rkF n F k := by
  have hsub : ∀ j, j < n → decide (itF F j p = (j : Int)) = true → decide (0 ≤ itF F j k) = true := fun j hj h => decide_eq_true ((idx_cyc hF hk hj).2 ⟨p, hp, of_decide_eq_true h⟩)
  rw [fx_cnt, rk_cnt]
  constructor
  · intro h
    refine cnt_congr (fun j hj => ?_)
    by_cases hc : 0 ≤ itF F j k
    · rw [decide_eq_true hc]
      refine decide_eq_true (itF_back hF hj k p ?_ ?_)
      · have := h j hj; rw [pw_it hF hj, pw_it hF hj] at this; omega
      · have := h j hj; rw [pw_it hF hj, pw_it hF hj] at this; exact this.symm
    · rw [decide_eq_false hc]
      cases e : decide (itF F j p = (j : Int)) with
      | false => rfl
      | true => exact absurd (of_decide_eq_true (hsub j hj e)) hc
  · intro h j hj
    rw [pw_it hF hj, pw_it hF hj]
    by_cases hc : 0 ≤ itF F j k
    · have := of_decide_eq_true (cnt_eq hsub h j hj (decide_eq_true hc))
      rw [Nat.add_comm, it_via this]
    · have h1 := (itF_en hF.en hj k).resolve_right (fun h => hc h.1)
      rw [h1]
      exact (itF_en hF.en hj (k + p)).resolve_right (fun h => hc (itF_down k p h.1))
theorem per_ex (hF : CH n F) : ∃ p, 1 ≤ p ∧ p < 1 + 61 ∧ decide (fxF n F p = rkF n F (idxF n F)) = true := by
  have hk := (idx_spec hF).1
  refine ⟨60, by omega, by omega, decide_eq_true ((pow_back hF hk (by omega)).1 fun j hj => ?_)⟩
  refine pw_period hF (fun i hi he => ?_) j hj
  rw [pw_it hF hi] at he ⊢
  have := (idx_cyc hF hk hi).1 ((itF_en hF.en hi _).resolve_left he).1
  have := this.pos (idxF n F + 1); omega
theorem per_spec (hF : CH n F) : 1 ≤ perF n F ∧ perF n F ≤ 60 ∧ (∀ j, j < n → pwF n F (idxF n F + perF n F) j = pwF n F (idxF n F) j) ∧ ∀ p, 1 ≤ p → p < perF n F → ¬ ∀ j, j < n → pwF n F (idxF n F + p) j = pwF n F (idxF n F) j := by
  have hk := (idx_spec hF).1
  have h := lst_spec 61 1 (per_ex hF)
  refine ⟨h.2.1, ?_, (pow_back hF hk h.2.1).2 (of_decide_eq_true h.1), fun p h1 h2 => ?_⟩
  · have h60 : fxF n F 60 = rkF n F (idxF n F) := by
      refine (pow_back hF hk (by omega)).1 fun j hj => pw_period hF (fun i hi he => ?_) j hj
      rw [pw_it hF hi] at he ⊢
      have := (idx_cyc hF hk hi).1 ((itF_en hF.en hi _).resolve_left he).1
      have := this.pos (idxF n F + 1); omega
    apply Classical.byContradiction
    intro hgt
    have := of_decide_eq_false (h.2.2.2 60 (by omega) (by unfold perF at hgt; omega))
    exact this h60
  · rw [pow_back hF hk h1]
    exact of_decide_eq_false (h.2.2.2 p h1 h2)
theorem idx_zero (hF : CH n F) : idxF n F = 0 ↔ rkF n F 1 = n := by
  have h := idx_spec hF
  have h0 : rkF n F 0 = n := by
    rw [rk_cnt, cnt_congr (Q := fun _ => true) (fun j _ => decide_eq_true (by simp [itF]))]
    have hc : ∀ m, cnt (fun _ => true) m = m := fun m => by
      induction m with
      | zero => rfl
      | succ m ih => rw [cnt_succ, ih]; rfl
    exact hc n
  constructor
  · intro e; rw [e] at h; rw [← h.1, h0]
  · intro e
    apply Classical.byContradiction
    intro hne
    exact h.2.2 0 (by omega) (by rw [h0, e])
theorem idx_shape (hr : ∀ k, rkF n F k = rkF n G k) : idxF n F = idxF n G := lst_congr (fun k => by rw [hr, hr]) 8 0
theorem per_shape (hr : ∀ k, rkF n F k = rkF n G k) (hx : ∀ k, 1 ≤ k → fxF n F k = fxF n G k) : perF n F = perF n G := by
  unfold perF
  rw [idx_shape hr, hr]
  generalize rkF n G (idxF n G) = c
  have : ∀ d k, 1 ≤ k → lst (fun p => decide (fxF n F p = c)) d k = lst (fun p => decide (fxF n G p = c)) d k := fun d => by
    induction d with
    | zero => intro k _; rfl
    | succ d ih => intro k hk; unfold lst; rw [ih (k + 1) (by omega), hx k hk]
  exact this 61 1 (Nat.le_refl _)
/-- the rank of a power -/
theorem rk_pw (hF : CH n F) (k : Nat) : popK (domL (mv (pwF n F k) n)) 6 = rkF n F k := by
  have hp := CH_pw hF k
  rw [cnt_dom hF.six hp.en, rk_cnt]
  refine cnt_congr (fun j hj => ?_)
  rw [pw_it hF hj]
  rcases itF_en hF.en hj k with h | h
  · rw [h]; simp
  · rw [decide_eq_true (show itF F j k ≠ -1 by omega), decide_eq_true h.1]
end
end Go.Proofs.Ytckppfgooflooaa
