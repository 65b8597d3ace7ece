/-
  Charts as functions on the points below n: no program.
-/
import Derived.Test.YtoomeimloaloaaaCompB
namespace Go.Proofs.Ytoomeimloaloaaa
set_option maxRecDepth 100000

/-- a chart of n points -/
structure CH (n : Nat) (F : Nat → Int) : Prop where
  one : 1 ≤ n
  six : n ≤ 6
  en : En n F
  inj : In n F

theorem en_ofL {zs : List Int} (h : isC zs = true) : En zs.length (ofL zs) := fun j hj => by
  rcases isC_ent h j hj with h1 | h1
  · exact .inl h1
  · exact .inr h1
theorem isC_CH {zs : List Int} (h : isC zs = true) : CH zs.length (ofL zs) := ⟨(isC_len h).1, (isC_len h).2, en_ofL h, isC_in h⟩
theorem okFrom_of (n : Nat) : ∀ (zs : List Int) (m : Nat), (∀ z ∈ zs, z = -1 ∨ (0 ≤ z ∧ z < n ∧ m.testBit z.toNat = false)) → zs.Pairwise (fun a b => a ≠ -1 → a ≠ b) → okFrom n m zs = true
  | [], _, _, _ => rfl
  | z :: zs, m, h, hp => by
    unfold okFrom
    rw [List.pairwise_cons] at hp
    by_cases hz : z = -1
    · rw [if_pos hz]
      exact okFrom_of n zs m (fun y hy => h y (List.mem_cons_of_mem _ hy)) hp.2
    · rw [if_neg hz, if_pos ((h z List.mem_cons_self).resolve_left hz)]
      have hz0 := (h z List.mem_cons_self).resolve_left hz
      refine okFrom_of n zs _ (fun y hy => ?_) hp.2
      rcases h y (List.mem_cons_of_mem _ hy) with h1 | ⟨h1, h2, h3⟩
      · exact .inl h1
      · refine .inr ⟨h1, h2, ?_⟩
        have hne := hp.1 y hy hz
        rw [Nat.testBit_or, h3, Nat.one_shiftLeft, Nat.testBit_two_pow, Bool.false_or]
        exact decide_eq_false (by omega)
theorem CH_isC {n : Nat} {F : Nat → Int} (h : CH n F) : isC (LT n F) = true := by
  unfold isC
  rw [Bool.and_eq_true]
  refine ⟨decide_eq_true (by rw [LT_length]; exact ⟨h.one, h.six⟩), ?_⟩
  rw [LT_length]
  refine okFrom_of n _ 0 (fun z hz => ?_) ?_
  · simp only [LT, List.mem_map, List.mem_range] at hz
    obtain ⟨j, hj, rfl⟩ := hz
    rcases h.en j hj with h1 | h1
    · exact .inl h1
    · exact .inr ⟨h1.1, h1.2, Nat.zero_testBit _⟩
  · unfold LT
    rw [List.pairwise_map]
    refine (List.pairwise_lt_range (n := n)).imp_of_mem (fun {i j} hi hj hlt h1 he => ?_)
    have := h.inj i j (List.mem_range.1 hi) (List.mem_range.1 hj) h1 he
    omega
theorem ofL_pt {n j : Nat} (F : Nat → Int) (h : j < n) : ofL (LT n F) j = F j := LT_get n F j h
theorem CH.congr {n : Nat} {F G : Nat → Int} (h : CH n F) (e : ∀ j, j < n → F j = G j) : CH n G :=
  ⟨h.one, h.six, fun j hj => by rw [← e j hj]; exact h.en j hj, fun i j hi hj h1 he => h.inj i j hi hj (by rw [e i hi]; exact h1) (by rw [e i hi, e j hj]; exact he)⟩

/-- the product -/
def cmp (n : Nat) (F G : Nat → Int) (j : Nat) : Int := if 0 ≤ F j ∧ F j < n then G (F j).toNat else -1
theorem CH.cmp {n : Nat} {F G : Nat → Int} (h : CH n F) (h' : CH n G) : CH n (cmp n F G) := by
  refine ⟨h.one, h.six, fun j hj => ?_, fun i j hi hj h1 he => ?_⟩
  · unfold Proofs.Ytoomeimloaloaaa.cmp
    split
    · rename_i hc; exact h'.en _ (by omega)
    · exact .inl rfl
  · unfold Proofs.Ytoomeimloaloaaa.cmp at h1 he
    by_cases hi' : 0 ≤ F i ∧ F i < n
    · rw [if_pos hi'] at h1 he
      by_cases hj' : 0 ≤ F j ∧ F j < n
      · rw [if_pos hj'] at he
        have := h'.inj _ _ (by omega) (by omega) h1 he
        exact h.inj i j hi hj (by omega) (by omega)
      · rw [if_neg hj'] at he; exact absurd he h1
    · rw [if_neg hi'] at h1; exact absurd rfl h1
theorem cmp_congr {n : Nat} {F F' G G' : Nat → Int} (e : ∀ j, j < n → F j = F' j) (e' : ∀ j, j < n → G j = G' j) {j : Nat} (hj : j < n) : cmp n F G j = cmp n F' G' j := by
  unfold cmp
  rw [← e j hj]
  split
  · rename_i hc; exact e' _ (by omega)
  · rfl
theorem cmp_assoc {n : Nat} {F G H : Nat → Int} (j : Nat) : cmp n (cmp n F G) H j = cmp n F (cmp n G H) j := by
  unfold cmp
  by_cases h : 0 ≤ F j ∧ F j < n
  · simp [h]
  · simp [h]

theorem times_cmp {n : Nat} {T G : Nat → Int} (hn : n ≤ 6) (h : En n T) {j : Nat} (hj : j < n) : timesL n G (mv T n) j = cmp n T G j := by
  rw [times_closed n _ _ j n hn]
  unfold cmp stillF
  rcases h j hj with h1 | h1
  · rw [if_neg (by omega), if_pos hj, if_neg (by omega)]
  · rw [if_pos (by omega), if_pos (by omega)]
theorem tiL_cmp {f g : List Int} (h : isP f g = true) : tiL f g = LT f.length (cmp f.length (ofL f) (ofL g)) := by
  have hp := isP_yes h
  have hc := isC_CH hp.1
  unfold tiL
  rw [pk_yes h, pF_yes h, pG_yes h]
  exact LT_congr fun j hj => times_cmp hc.six hc.en hj
theorem isP_of {f g : List Int} (h : isC f = true) (h' : isC g = true) (e : f.length = g.length) : isP f g = true := by
  unfold isP; simp [h, h', e]
theorem tiL_len {f g : List Int} (h : isP f g = true) : (tiL f g).length = f.length := by rw [tiL_cmp h, LT_length]
theorem tiL_isC {f g : List Int} (h : isP f g = true) : isC (tiL f g) = true := by
  rw [tiL_cmp h]
  have hp := isP_yes h
  exact CH_isC ((isC_CH hp.1).cmp (by have := isC_CH hp.2.1; rwa [← hp.2.2] at this))
theorem tiL_get {f g : List Int} (h : isP f g = true) {j : Nat} (hj : j < f.length) : ofL (tiL f g) j = cmp f.length (ofL f) (ofL g) j := by rw [tiL_cmp h, ofL_pt _ hj]

/-- products go in any brackets -/
theorem tiL_assoc {f g h : List Int} (hfg : isP f g = true) (hgh : isP g h = true) : isP (tiL f g) h = true ∧ isP f (tiL g h) = true ∧ tiL (tiL f g) h = tiL f (tiL g h) := by
  have p := isP_yes hfg
  have q := isP_yes hgh
  have a : isP (tiL f g) h = true := isP_of (tiL_isC hfg) q.2.1 (by rw [tiL_len hfg, p.2.2, q.2.2])
  have b : isP f (tiL g h) = true := isP_of p.1 (tiL_isC hgh) (by rw [tiL_len hgh, p.2.2])
  refine ⟨a, b, ?_⟩
  rw [tiL_cmp a, tiL_cmp b, tiL_len hfg]
  refine LT_congr fun j hj => ?_
  rw [cmp_congr (fun i hi => tiL_get hfg hi) (fun _ _ => rfl) hj, cmp_congr (G := ofL (tiL g h)) (fun _ _ => rfl) (fun i hi => (tiL_get hgh (by omega))) hj, p.2.2]
  exact cmp_assoc j
end Go.Proofs.Ytoomeimloaloaaa
