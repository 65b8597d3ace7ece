/-
  Charts as folds over their moved points, and these folds' closed forms: no program.
-/
import Derived.Test.YtoomeimloaloaaaMath
namespace Go.Proofs.Ytoomeimloaloaaa
set_option maxRecDepth 100000

/-- what impl.chartOf gives for a list that it takes for a chart -/
def ofL (zs : List Int) (j : Nat) : Int := zs[j]?.getD 0

/-- the list of a chart's places -/
def LT (n : Nat) (T : Nat → Int) : List Int := (List.range n).map T
theorem LT_length (n : Nat) (T : Nat → Int) : (LT n T).length = n := by simp [LT]
theorem LT_get (n : Nat) (T : Nat → Int) (j : Nat) (h : j < n) : (LT n T)[j]?.getD 0 = T j := by simp [LT, h]

/-- a moved point and where it is moved -/
abbrev Pt := { x : Nat × Int // x.1 < 6 ∧ 0 ≤ x.2 ∧ x.2 < 6 }

/-- the moved points below k, in ascending order, and where each is moved -/
def mv (T : Nat → Int) : Nat → List Pt
  | 0 => []
  | k + 1 => if h : k < 6 ∧ 0 ≤ T k ∧ T k < 6 then mv T k ++ [⟨(k, T k), h⟩] else mv T k
theorem mv_skip {T : Nat → Int} {k : Nat} (h : T k = -1) : mv T (k + 1) = mv T k := by simp [mv, h]
theorem mv_step {T : Nat → Int} {k : Nat} (h : k < 6 ∧ 0 ≤ T k ∧ T k < 6) : mv T (k + 1) = mv T k ++ [⟨(k, T k), h⟩] := by simp [mv, h]
theorem mv_length (T : Nat → Int) : ∀ k, (mv T k).length ≤ k
  | 0 => by simp [mv]
  | k + 1 => by
    have := mv_length T k
    unfold mv
    split
    · simp; omega
    · omega

/-- the first n places are moved nowhere, or to one of six points -/
def Ok (n : Nat) (T : Nat → Int) : Prop := ∀ i, i < n → T i = -1 ∨ (0 ≤ T i ∧ T i < 6)

def stillF (n j : Nat) : Int := if j < n then -1 else 0
def turnS (S : Nat → Int) (x : Pt) : Nat → Int := fun j => if j = x.1.2.toNat then (x.1.1 : Int) else S j
def turnL (n : Nat) (xs : List Pt) : Nat → Int := xs.foldl turnS (stillF n)
theorem turnL_snoc (n : Nat) (xs : List Pt) (x : Pt) : turnL n (xs ++ [x]) = turnS (turnL n xs) x := by simp [turnL]

def timesS (D S : Nat → Int) (x : Pt) : Nat → Int := fun j => if j = x.1.1 then D x.1.2.toNat else S j
def timesL (n : Nat) (G : Nat → Int) (xs : List Pt) : Nat → Int := xs.foldl (timesS G) (stillF n)
theorem timesL_snoc (n : Nat) (G : Nat → Int) (xs : List Pt) (x : Pt) : timesL n G (xs ++ [x]) = timesS G (timesL n G xs) x := by simp [timesL]
def meetS (D S : Nat → Int) (x : Pt) : Nat → Int := fun j => if j = x.1.1 ∧ D x.1.1 = x.1.2 then x.1.2 else S j
def meetL (n : Nat) (G : Nat → Int) (xs : List Pt) : Nat → Int := xs.foldl (meetS G) (stillF n)
theorem meetL_snoc (n : Nat) (G : Nat → Int) (xs : List Pt) (x : Pt) : meetL n G (xs ++ [x]) = meetS G (meetL n G xs) x := by simp [meetL]
def cutS (m : Nat) (S : Nat → Int) (x : Pt) : Nat → Int := fun j => if j = x.1.1 ∧ m.testBit x.1.1 = true then x.1.2 else S j
def cutL (n m : Nat) (xs : List Pt) : Nat → Int := xs.foldl (cutS m) (stillF n)
theorem cutL_snoc (n m : Nat) (xs : List Pt) (x : Pt) : cutL n m (xs ++ [x]) = cutS m (cutL n m xs) x := by simp [cutL]
def joinS (S : Nat → Int) (x : Pt) : Nat → Int := fun j => if j = x.1.1 then x.1.2 else S j
def joinL (T : Nat → Int) (xs : List Pt) : Nat → Int := xs.foldl joinS T
theorem joinL_snoc (T : Nat → Int) (xs : List Pt) (x : Pt) : joinL T (xs ++ [x]) = joinS (joinL T xs) x := by simp [joinL]

/-- no point is moved to another one -/
def idemL (xs : List Pt) : Bool := xs.all fun x => decide ((x.1.1 : Int) = x.1.2)
theorem idemL_snoc (xs : List Pt) (x : Pt) : idemL (xs ++ [x]) = (idemL xs && decide ((x.1.1 : Int) = x.1.2)) := by simp [idemL]
theorem mv_prefix (T : Nat → Int) {k : Nat} : ∀ {n : Nat}, k ≤ n → mv T k <+: mv T n
  | 0, h => by obtain rfl : k = 0 := by omega
               exact List.prefix_refl _
  | n + 1, h => by
    by_cases e : k = n + 1
    · subst e; exact List.prefix_refl _
    · have ih := mv_prefix T (k := k) (n := n) (by omega)
      by_cases hc : n < 6 ∧ 0 ≤ T n ∧ T n < 6
      · rw [mv_step hc]; exact ih.trans (List.prefix_append _ _)
      · have : mv T (n + 1) = mv T n := by simp [mv, hc]
        rw [this]; exact ih
theorem idemL_take {T : Nat → Int} {k n : Nat} (hk : k ≤ n) (h : idemL (mv T k) = false) : idemL (mv T n) = false := by
  obtain ⟨ys, hys⟩ := mv_prefix T hk
  rw [← hys]; unfold idemL at *; rw [List.all_append, h]; rfl

/-- the set of the points that come -/
def domL (xs : List Pt) : Nat := xs.foldl (fun m x => m ||| 1 <<< x.1.1) 0
theorem domL_snoc (xs : List Pt) (x : Pt) : domL (xs ++ [x]) = domL xs ||| 1 <<< x.1.1 := by simp [domL]
theorem domL_lt (xs : List Pt) : domL xs < 64 := by
  have h : ∀ (ys : List Pt) (m : Nat), m < 64 → ys.foldl (fun m x => m ||| 1 <<< x.1.1) m < 64 := by
    intro ys
    induction ys with
    | nil => intro m hm; exact hm
    | cons y ys ih => intro m hm; exact ih _ (mask_lt' hm y.2.1)
  exact h xs 0 (by omega)


/-! ### closed forms -/
theorem times_closed (n : Nat) (D T : Nat → Int) (j : Nat) : ∀ k, k ≤ 6 → timesL n D (mv T k) j = if j < k ∧ 0 ≤ T j ∧ T j < 6 then D (T j).toNat else stillF n j
  | 0, _ => by simp [mv, timesL]
  | k + 1, hk => by
    have ih := times_closed n D T j k (by omega)
    by_cases hc : k < 6 ∧ 0 ≤ T k ∧ T k < 6
    · rw [mv_step hc, timesL_snoc]
      by_cases e : j = k
      · subst e; simp [timesS, hc]
      · simp only [timesS, e, if_false, ih]
        have : (j < k + 1 ∧ 0 ≤ T j ∧ T j < 6) ↔ (j < k ∧ 0 ≤ T j ∧ T j < 6) := by omega
        simp only [this]
    · have e0 : mv T (k + 1) = mv T k := by simp [mv, hc]
      rw [e0, ih]
      by_cases e : j = k
      · subst e; simp; intro h1 h2; exact absurd ⟨by omega, h1, h2⟩ hc
      · have : (j < k + 1 ∧ 0 ≤ T j ∧ T j < 6) ↔ (j < k ∧ 0 ≤ T j ∧ T j < 6) := by omega
        simp only [this]
theorem meet_closed (n : Nat) (D T : Nat → Int) (j : Nat) : ∀ k, k ≤ 6 → meetL n D (mv T k) j = if (j < k ∧ 0 ≤ T j ∧ T j < 6) ∧ D j = T j then T j else stillF n j
  | 0, _ => by simp [mv, meetL]
  | k + 1, hk => by
    have ih := meet_closed n D T j k (by omega)
    by_cases hc : k < 6 ∧ 0 ≤ T k ∧ T k < 6
    · rw [mv_step hc, meetL_snoc]
      by_cases e : j = k
      · subst e; simp [meetS, hc, ih]
      · simp only [meetS, e, false_and, if_false, ih]
        have : (j < k + 1 ∧ 0 ≤ T j ∧ T j < 6) ↔ (j < k ∧ 0 ≤ T j ∧ T j < 6) := by omega
        simp only [this]
    · have e0 : mv T (k + 1) = mv T k := by simp [mv, hc]
      rw [e0, ih]
      by_cases e : j = k
      · subst e; simp; intro h1 h2; exact absurd ⟨by omega, h1, h2⟩ hc
      · have : (j < k + 1 ∧ 0 ≤ T j ∧ T j < 6) ↔ (j < k ∧ 0 ≤ T j ∧ T j < 6) := by omega
        simp only [this]
theorem cut_closed (n m : Nat) (T : Nat → Int) (j : Nat) : ∀ k, k ≤ 6 → cutL n m (mv T k) j = if (j < k ∧ 0 ≤ T j ∧ T j < 6) ∧ m.testBit j = true then T j else stillF n j
  | 0, _ => by simp [mv, cutL]
  | k + 1, hk => by
    have ih := cut_closed n m T j k (by omega)
    by_cases hc : k < 6 ∧ 0 ≤ T k ∧ T k < 6
    · rw [mv_step hc, cutL_snoc]
      by_cases e : j = k
      · subst e; simp [cutS, hc, ih]
      · simp only [cutS, e, false_and, if_false, ih]
        have : (j < k + 1 ∧ 0 ≤ T j ∧ T j < 6) ↔ (j < k ∧ 0 ≤ T j ∧ T j < 6) := by omega
        simp only [this]
    · have e0 : mv T (k + 1) = mv T k := by simp [mv, hc]
      rw [e0, ih]
      by_cases e : j = k
      · subst e; simp; intro h1 h2; exact absurd ⟨by omega, h1, h2⟩ hc
      · have : (j < k + 1 ∧ 0 ≤ T j ∧ T j < 6) ↔ (j < k ∧ 0 ≤ T j ∧ T j < 6) := by omega
        simp only [this]
theorem join_closed (S D : Nat → Int) (j : Nat) : ∀ k, k ≤ 6 → joinL S (mv D k) j = if j < k ∧ 0 ≤ D j ∧ D j < 6 then D j else S j
  | 0, _ => by simp [mv, joinL]
  | k + 1, hk => by
    have ih := join_closed S D j k (by omega)
    by_cases hc : k < 6 ∧ 0 ≤ D k ∧ D k < 6
    · rw [mv_step hc, joinL_snoc]
      by_cases e : j = k
      · subst e; simp [joinS, hc]
      · simp only [joinS, e, if_false, ih]
        have : (j < k + 1 ∧ 0 ≤ D j ∧ D j < 6) ↔ (j < k ∧ 0 ≤ D j ∧ D j < 6) := by omega
        simp only [this]
    · have e0 : mv D (k + 1) = mv D k := by simp [mv, hc]
      rw [e0, ih]
      by_cases e : j = k
      · subst e; simp; intro h1 h2; exact absurd ⟨by omega, h1, h2⟩ hc
      · have : (j < k + 1 ∧ 0 ≤ D j ∧ D j < 6) ↔ (j < k ∧ 0 ≤ D j ∧ D j < 6) := by omega
        simp only [this]
theorem idem_closed (T : Nat → Int) : ∀ k, k ≤ 6 → (idemL (mv T k) = true ↔ ∀ j, j < k → 0 ≤ T j → T j < 6 → T j = j)
  | 0, _ => by simp [mv, idemL]
  | k + 1, hk => by
    have ih := idem_closed T k (by omega)
    by_cases hc : k < 6 ∧ 0 ≤ T k ∧ T k < 6
    · rw [mv_step hc, idemL_snoc, Bool.and_eq_true, ih]
      constructor
      · rintro ⟨h1, h2⟩ j hj h3 h4
        by_cases e : j = k
        · subst e; have := of_decide_eq_true h2; exact this.symm
        · exact h1 j (by omega) h3 h4
      · intro h
        exact ⟨fun j hj => h j (by omega), decide_eq_true (h k (by omega) hc.2.1 hc.2.2).symm⟩
    · have e0 : mv T (k + 1) = mv T k := by simp [mv, hc]
      rw [e0, ih]
      constructor
      · intro h j hj h3 h4
        by_cases e : j = k
        · subst e; exact absurd ⟨by omega, h3, h4⟩ hc
        · exact h j (by omega) h3 h4
      · intro h j hj; exact h j (by omega)

theorem LT_succ (k : Nat) (F : Nat → Int) : LT (k + 1) F = LT k F ++ [F k] := by simp [LT, List.range_succ]
theorem LT_congr {n : Nat} {F G : Nat → Int} (h : ∀ j, j < n → F j = G j) : LT n F = LT n G := by
  unfold LT; apply List.map_congr_left; intro j hj; exact h j (by simpa using hj)
theorem LT_set {n u : Nat} {S : Nat → Int} {i : Int} (_hu : u < n) : (LT n S).set u i = LT n (fun j => if j = u then i else S j) := by
  apply List.ext_getElem
  · simp [LT]
  · intro j h1 h2
    simp [LT, List.getElem_set]
    by_cases e : u = j
    · simp [e]
    · simp [e]; intro h; exact absurd h.symm e
theorem LT_ofL {n : Nat} {zs : List Int} (h : zs.length = n) : LT n (ofL zs) = zs := by
  apply List.ext_getElem
  · simp [LT, h]
  · intro j h1 h2
    simp [LT, ofL, List.getElem?_eq_getElem h2]

/-- the numbers of a list that is a chart of n points -/
def Ent (n : Nat) (zs : List Int) : Prop := ∀ j, j < n → zs[j]?.getD 0 = -1 ∨ (0 ≤ zs[j]?.getD 0 ∧ zs[j]?.getD 0 < n)

/-! ### a list as the chart that the program makes of it: no points where it is none -/
def fk (zs : List Int) : Nat := if isC zs = true then zs.length else 0
def fT (zs : List Int) (j : Nat) : Int := if isC zs = true then ofL zs j else 0
theorem fk_yes {zs : List Int} (h : isC zs = true) : fk zs = zs.length := by simp [fk, h]
theorem fk_no {zs : List Int} (h : isC zs = false) : fk zs = 0 := by simp [fk, h]
theorem fT_yes {zs : List Int} (h : isC zs = true) (j : Nat) : fT zs j = ofL zs j := by simp [fT, h]
theorem fT_no {zs : List Int} (h : isC zs = false) (j : Nat) : fT zs j = 0 := by simp [fT, h]
theorem isC_len {zs : List Int} (h : isC zs = true) : 1 ≤ zs.length ∧ zs.length ≤ 6 := by
  unfold isC at h; rw [Bool.and_eq_true] at h; exact of_decide_eq_true h.1
theorem isC_ok {zs : List Int} (h : isC zs = true) : okFrom zs.length 0 zs = true := by
  unfold isC at h; rw [Bool.and_eq_true] at h; exact h.2
theorem isC_ent {zs : List Int} (h : isC zs = true) : Ent zs.length zs := by
  intro j hj
  have hm : zs[j]?.getD 0 ∈ zs := by rw [List.getElem?_eq_getElem hj]; simp
  rcases okFrom_mem (isC_ok h) _ hm with h1 | h1 <;> omega
theorem ent_ok {n : Nat} {zs : List Int} (hn : n ≤ 6) (h : Ent n zs) : Ok n (ofL zs) := fun j hj => by
  rcases h j hj with h1 | h1
  · exact .inl h1
  · exact .inr ⟨h1.1, by have := h1.2; unfold ofL; omega⟩

theorem fk_le (zs : List Int) : fk zs ≤ 6 := by
  unfold fk; split
  · rename_i h; exact (isC_len h).2
  · omega
theorem mv_congr {T T' : Nat → Int} : ∀ {k : Nat}, (∀ j, j < k → T j = T' j) → mv T k = mv T' k
  | 0, _ => rfl
  | k + 1, h => by
    have ih := mv_congr (k := k) (fun j hj => h j (by omega))
    have e := h k (by omega)
    by_cases hc : k < 6 ∧ 0 ≤ T k ∧ T k < 6
    · have hc' : k < 6 ∧ 0 ≤ T' k ∧ T' k < 6 := by rw [← e]; exact hc
      rw [mv_step hc, mv_step hc', ih]
      simp only [e]
    · have hc' : ¬ (k < 6 ∧ 0 ≤ T' k ∧ T' k < 6) := by rw [← e]; exact hc
      have e1 : mv T (k + 1) = mv T k := by simp [mv, hc]
      have e2 : mv T' (k + 1) = mv T' k := by simp [mv, hc']
      rw [e1, e2, ih]
theorem fT_ok (zs : List Int) : Ok (fk zs) (fT zs) := by
  cases h : isC zs
  · rw [fk_no h]; intro j hj; omega
  · rw [fk_yes h]; intro j hj; rw [fT_yes h]; exact ent_ok (isC_len h).2 (isC_ent h) j hj
theorem Ok.congr {n : Nat} {T T' : Nat → Int} (h : Ok n T') (e : ∀ j, j < 6 → T j = T' j) (hn : n ≤ 6) : Ok n T := fun j hj => by rw [e j (by omega)]; exact h j hj
end Go.Proofs.Ytoomeimloaloaaa
