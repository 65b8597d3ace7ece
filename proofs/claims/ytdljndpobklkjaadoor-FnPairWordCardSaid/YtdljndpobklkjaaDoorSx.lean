/-
  What the laws of chapter 6 ask of swaps and of pairs; no program.
-/
import Derived.Test.YtdljndpobklkjaaDoorSw
namespace Go.Proofs.YtdljndpobklkjaaDoor
set_option maxRecDepth 100000
open Go.RowKit Go.Lib

instance : DecidableEq SW := fun a b =>
  if h : a.f = b.f ∧ a.t = b.t ∧ a.n = b.n then .isTrue (SW.eq h.1 h.2.1 h.2.2) else .isFalse (fun e => h (by subst e; exact ⟨rfl, rfl, rfl⟩))

theorem times_eq {s t o : SW} (h : timesS s t = (o, true)) : inS s = true ∧ inS t = true ∧ mulS s t = o ∧ inS o = true := by
  unfold timesS at h
  split at h
  · rename_i hc
    injection h with h1 _
    subst h1
    rw [Bool.and_eq_true, Bool.and_eq_true] at hc
    exact ⟨hc.1.1, hc.1.2, rfl, hc.2⟩
  · injection h with _ h2; cases h2
theorem times_mk {s t : SW} (h1 : inS s = true) (h2 : inS t = true) (h3 : inS (mulS s t) = true) : timesS s t = (mulS s t, true) := by
  unfold timesS; rw [h1, h2, h3]; rfl
theorem turned_mk {s : SW} (h : inS s = true) : turnedS s = (turnS s, true) := by unfold turnedS; rw [if_pos h]
theorem turned_eq {s o : SW} (h : turnedS s = (o, true)) : inS s = true ∧ o = turnS s := by
  unfold turnedS at h
  split at h
  · rename_i hc; injection h with h1 _; exact ⟨hc, h1.symm⟩
  · injection h with _ h2; cases h2
theorem beg_self (l : List UInt8) : beg l l = true := beg_iff.2 ⟨[], by simp⟩
theorem mul_turn (s : SW) : mulS s (turnS s) = if s.n = true then .none else ⟨s.f, s.f, false⟩ := by
  unfold mulS turnS
  cases hn : s.n with
  | true => rfl
  | false => simp [beg_self]
/-- P61 -/
theorem swap_law {s : SW} (h : inS s = true) : turnedS s = (turnS s, true) ∧ ∃ a, timesS s (turnS s) = (a, true) ∧ timesS a s = (s, true) := by
  have hm : inS (mulS s (turnS s)) = true := by
    rw [mul_turn]
    split
    · exact in_none
    · obtain ⟨a, b, c⟩ := inS_iff.1 h
      exact inS_iff.2 ⟨a, a, fun e => by cases e⟩
  have hms := mul_self_turn (nrm_of h)
  refine ⟨turned_mk h, _, times_mk h (in_turn h) hm, ?_⟩
  rw [times_mk hm h (by rw [hms]; exact h), hms]
theorem sgB_app {a b : List UInt8} {m k n : Nat} (ha : sgB a m = true) (hb : sgB b k = true) (h : m + k ≤ n) : sgB (a ++ b) n = true := by
  rw [sgB_iff] at *
  refine ⟨fun x hx => ?_, by rw [List.length_append]; omega⟩
  rcases List.mem_append.1 hx with h' | h'
  · exact ha.1 x h'
  · exact hb.1 x h'
theorem sgB_le {a : List UInt8} {m n : Nat} (ha : sgB a m = true) (h : a.length ≤ n) : sgB a n = true := sgB_iff.2 ⟨(sgB_iff.1 ha).1, h⟩
theorem sgB_len {a : List UInt8} {m : Nat} (ha : sgB a m = true) : a.length ≤ m := (sgB_iff.1 ha).2
theorem sgB_right {a b : List UInt8} {m : Nat} (ha : sgB (a ++ b) m = true) : sgB b m = true := by
  rw [sgB_iff] at *
  refine ⟨fun x hx => ha.1 x (List.mem_append_right _ hx), by have := ha.2; rw [List.length_append] at this; omega⟩
theorem mov_mk {s : SW} {x : List UInt8} (h1 : inS s = true) (h2 : sgB x 40 = true) : movS s x = ((actS s x).getD [], (actS s x).isSome) := by
  unfold movS
  rw [h1, h2]
  cases actS s x <;> rfl
theorem mov_eq {s : SW} {x y : List UInt8} (h : movS s x = (y, true)) : inS s = true ∧ sgB x 40 = true ∧ actS s x = some y := by
  unfold movS at h
  split at h
  · rename_i hc
    rw [Bool.and_eq_true] at hc
    refine ⟨hc.1, hc.2, ?_⟩
    cases ha : actS s x with
    | none => rw [ha] at h; injection h with _ h2; cases h2
    | some z => rw [ha] at h; injection h with h1 _; rw [h1]
  · injection h with _ h2; cases h2
/-- P62 -/
theorem swapTimes_law {s t o : SW} (h : timesS s t = (o, true)) :
    (20 < (s.f ++ t.f ++ [48, 49]).length ∨ ((movS o (s.f ++ t.f ++ [48, 49])).2 = ((movS s (s.f ++ t.f ++ [48, 49])).2 && (movS t (movS s (s.f ++ t.f ++ [48, 49])).1).2) ∧
      ((movS o (s.f ++ t.f ++ [48, 49])).2 = false ∨ (movS o (s.f ++ t.f ++ [48, 49])).1 = (movS t (movS s (s.f ++ t.f ++ [48, 49])).1).1))) ∧
    turnedS o = (turnS o, true) ∧ turnedS s = (turnS s, true) ∧ turnedS t = (turnS t, true) ∧ timesS (turnS t) (turnS s) = (turnS o, true) := by
  obtain ⟨hs, ht, hm, ho⟩ := times_eq h
  refine ⟨?_, turned_mk ho, turned_mk hs, turned_mk ht, ?_⟩
  · by_cases hl : 20 < (s.f ++ t.f ++ [48, 49]).length
    · exact .inl hl
    · right
      have hsi := inS_iff.1 hs
      have hti := inS_iff.1 ht
      have hx : sgB (s.f ++ t.f ++ [48, 49]) 42 = true := sgB_app (sgB_app hsi.1 hti.1 (Nat.le_refl _)) (k := 2) (by decide) (by omega)
      have hx20 : sgB (s.f ++ t.f ++ [48, 49]) 20 = true := sgB_le hx (by omega)
      have hx40 : sgB (s.f ++ t.f ++ [48, 49]) 40 = true := sgB_le hx (by omega)
      generalize s.f ++ t.f ++ [48, 49] = x at *
      rw [mov_mk ho hx40, mov_mk hs hx40]
      have hb := act_mul s t x
      rw [hm] at hb
      cases hq : actS s x with
      | none =>
        rw [hq] at hb
        rw [hb]
        exact ⟨rfl, .inl rfl⟩
      | some y =>
        rw [hq, Option.bind_some] at hb
        have hy : sgB y 40 = true := by
          obtain ⟨_, e, h1, h2⟩ := act_iff.1 hq
          rw [h2]
          rw [h1] at hx20
          exact sgB_app hsi.2.1 (sgB_right hx20) (by omega)
        show (actS o x).isSome = (true && (movS t y).2) ∧ _
        have hz : movS t y = ((actS t y).getD [], (actS t y).isSome) := mov_mk ht hy
        refine ⟨by rw [hz, hb, Bool.true_and], .inr ?_⟩
        show (actS o x).getD [] = (movS t y).1
        rw [hz, hb]
  · have := turn_mul s t
    rw [hm] at this
    rw [times_mk (in_turn ht) (in_turn hs) (by rw [← this]; exact in_turn ho), ← this]
/-- P63 -/
theorem swapBrackets_law {s t o a b c : SW} (h : timesS s t = (o, true)) (ha : timesS o s = (a, true)) (hb : timesS t s = (b, true)) (hc : timesS s b = (c, true)) : a = c := by
  obtain ⟨_, _, h1, _⟩ := times_eq h
  obtain ⟨_, _, h2, _⟩ := times_eq ha
  obtain ⟨_, _, h3, _⟩ := times_eq hb
  obtain ⟨_, _, h4, _⟩ := times_eq hc
  rw [← h2, ← h4, ← h1, ← h3, mul_assoc]
/-- P64 -/
theorem swapTurned_law {s o : SW} (h : turnedS s = (o, true)) : turnedS o = (s, true) := by
  obtain ⟨h1, rfl⟩ := turned_eq h
  exact turned_mk (in_turn h1)
/-- P65 -/
theorem swapIdem_law {s : SW} (h : idemS s = true) : timesS s s = (s, true) := by
  unfold idemS at h
  rw [Bool.and_eq_true, beq_iff_eq] at h
  have he : turnS s = s := SW.eq h.2.symm h.2 rfl
  have hm : mulS s s = s := by
    have := mul_turn s
    rw [he] at this
    rw [this]
    split
    · rename_i hn; exact (none_of h.1 hn).symm
    · rename_i hn; exact SW.eq rfl h.2 (by simpa using hn)
  rw [times_mk h.1 h.1 (by rw [hm]; exact h.1), hm]
/-- P66 -/
theorem swapAct_law {s : SW} {x y : List UInt8} (h : movS s x = (y, true)) : turnedS s = (turnS s, true) ∧ (40 < y.length ∨ movS (turnS s) y = (x, true)) := by
  obtain ⟨h1, h2, h3⟩ := mov_eq h
  refine ⟨turned_mk h1, ?_⟩
  by_cases hl : 40 < y.length
  · exact .inl hl
  · right
    have hy : sgB y 40 = true := by
      obtain ⟨_, e, e1, e2⟩ := act_iff.1 h3
      rw [e1] at h2
      have := sgB_app (inS_iff.1 h1).2.1 (sgB_right h2) (Nat.le_refl _)
      rw [← e2] at this
      exact sgB_le this (by omega)
    rw [mov_mk (in_turn h1) hy, act_turn.2 h3]; rfl
theorem bel_iff {s t : SW} (hs : s.n = false) (ht : t.n = false) : belS s t = true ↔ ∃ e, s.f = t.f ++ e ∧ s.t = t.t ++ e := by
  unfold belS
  rw [hs, ht, if_neg (by decide), Bool.and_eq_true, Bool.and_eq_true, beq_iff_eq, beg_iff, beg_iff]
  constructor
  · rintro ⟨⟨⟨e, h1⟩, e', h2⟩, h3⟩
    rw [h1, h2, List.drop_left, List.drop_left] at h3
    subst h3
    exact ⟨e, h1, h2⟩
  · rintro ⟨e, h1, h2⟩
    exact ⟨⟨⟨e, h1⟩, e, h2⟩, by rw [h1, h2, List.drop_left, List.drop_left]⟩
theorem bel_none {s t : SW} (h : (s.n || t.n) = true) : belS s t = s.n := by unfold belS; rw [if_pos h]
theorem bel_turn {s t : SW} (h : belS s t = true) : belS (turnS s) (turnS t) = true := by
  by_cases hn : (s.n || t.n) = true
  · rw [bel_none hn] at h
    rw [bel_none (s := turnS s) (t := turnS t) hn]; exact h
  · have hs : s.n = false := by cases h : s.n with | false => rfl | true => rw [h] at hn; exact absurd rfl hn
    have ht : t.n = false := by cases h : t.n with | false => rfl | true => rw [h, Bool.or_true] at hn; exact absurd rfl hn
    obtain ⟨e, h1, h2⟩ := (bel_iff hs ht).1 h
    exact (bel_iff (s := turnS s) (t := turnS t) hs ht).2 ⟨e, h2, h1⟩
/-- P67 -/
theorem swapBelow_law {s t : SW} (h : belowS s t = true) : turnedS s = (turnS s, true) ∧ turnedS t = (turnS t, true) ∧ belowS (turnS s) (turnS t) = true ∧
    ((movS s (s.f ++ [49, 48])).2 = false ∨ ((movS t (s.f ++ [49, 48])).2 = true ∧ (movS s (s.f ++ [49, 48])).1 = (movS t (s.f ++ [49, 48])).1)) := by
  unfold belowS at h
  rw [Bool.and_eq_true, Bool.and_eq_true] at h
  obtain ⟨⟨hs, ht⟩, hb⟩ := h
  refine ⟨turned_mk hs, turned_mk ht, by unfold belowS; rw [in_turn hs, in_turn ht, bel_turn hb]; rfl, ?_⟩
  have hx : sgB (s.f ++ [49, 48]) 40 = true := sgB_app (inS_iff.1 hs).1 (k := 2) (by decide) (by omega)
  rw [mov_mk hs hx, mov_mk ht hx]
  cases hsn : s.n with
  | true =>
    left
    show (actS s _).isSome = false
    unfold actS
    rw [hsn]; rfl
  | false =>
    right
    have htn : t.n = false := by
      cases htn : t.n with
      | false => rfl
      | true => rw [bel_none (by rw [htn, Bool.or_true]), hsn] at hb; cases hb
    obtain ⟨e, h1, h2⟩ := (bel_iff hsn htn).1 hb
    have ha : actS s (s.f ++ [49, 48]) = some (s.t ++ [49, 48]) := act_iff.2 ⟨hsn, _, rfl, rfl⟩
    have hc : actS t (s.f ++ [49, 48]) = some (s.t ++ [49, 48]) := act_iff.2 ⟨htn, e ++ [49, 48], by rw [h1, List.append_assoc], by rw [h2, List.append_assoc]⟩
    rw [ha, hc]; exact ⟨rfl, rfl⟩
theorem bel_refl (s : SW) : belS s s = true := by
  cases hn : s.n with
  | true => rw [bel_none (by rw [hn]; rfl), hn]
  | false => exact (bel_iff hn hn).2 ⟨[], by simp, by simp⟩
theorem bel_none_left (s : SW) : belS .none s = true := bel_none rfl
theorem bel_antisymm {s t : SW} (hs : inS s = true) (ht : inS t = true) (h1 : belS s t = true) (h2 : belS t s = true) : s = t := by
  by_cases hn : (s.n || t.n) = true
  · rw [bel_none hn] at h1
    rw [bel_none (by rw [Bool.or_comm]; exact hn)] at h2
    rw [none_of hs h1, none_of ht h2]
  · have hsn : s.n = false := by cases h : s.n with | false => rfl | true => rw [h] at hn; exact absurd rfl hn
    have htn : t.n = false := by cases h : t.n with | false => rfl | true => rw [h, Bool.or_true] at hn; exact absurd rfl hn
    obtain ⟨e, a1, a2⟩ := (bel_iff hsn htn).1 h1
    obtain ⟨e', b1, b2⟩ := (bel_iff htn hsn).1 h2
    have he : e = [] := by
      have := congrArg List.length a1
      have h7 := congrArg List.length b1
      simp at this h7
      exact List.length_eq_zero_iff.1 (by omega)
    subst he
    exact SW.eq (by simpa using a1) (by simpa using a2) (by rw [hsn, htn])
/-- P68 -/
theorem swapMeet_law {s t o : SW} (h : meetS s t = (o, true)) : meetS t s = (o, true) ∧ belowS o s = true ∧ belowS o t = true := by
  unfold meetS at h
  split at h
  · injection h with _ h2; cases h2
  · rename_i hc
    have hc : (inS s && inS t) = true := by simpa using hc
    have hc2 : (inS t && inS s) = true := by rw [Bool.and_comm]; exact hc
    obtain ⟨hs, ht⟩ := Bool.and_eq_true_iff.1 hc
    unfold meetS belowS
    rw [if_neg (by rw [hc2]; decide)]
    split at h
    · rename_i h1
      injection h with h _
      subst h
      rw [hs, ht, bel_refl, h1]
      refine ⟨?_, rfl, rfl⟩
      split
      · rename_i h2; rw [bel_antisymm hs ht h1 h2]
      · rfl
    · rename_i h1
      split at h
      · rename_i h2
        injection h with h _
        subst h
        rw [if_pos h2, hs, ht, bel_refl, h2]
        exact ⟨rfl, rfl, rfl⟩
      · rename_i h2
        injection h with h _
        subst h
        rw [if_neg h2, if_neg h1, in_none, hs, ht, bel_none_left, bel_none_left]
        exact ⟨rfl, rfl, rfl⟩

/-! ### pairs -/
def pnB (n : Int) : Bool := decide (0 ≤ n) && decide (n ≤ 1000)
theorem pnB_iff {n : Int} : pnB n = true ↔ 0 ≤ n ∧ n ≤ 1000 := by unfold pnB; rw [Bool.and_eq_true, decide_eq_true_eq, decide_eq_true_eq]
def timesP (i j k l : Int) : Int × Int × Bool :=
  if (pnB i && pnB j && pnB k && pnB l && pnB (i + max j k - j) && pnB (l + max j k - k)) = true then (i + max j k - j, l + max j k - k, true) else (0, 0, false)
def belP (i j k l : Int) : Bool := pnB i && pnB j && pnB k && pnB l && decide (i - k = j - l) && decide (k ≤ i)
theorem timesP_eq {i j k l a b : Int} (h : timesP i j k l = (a, b, true)) : pnB i = true ∧ pnB j = true ∧ pnB k = true ∧ pnB l = true ∧ pnB a = true ∧ pnB b = true ∧ a = i + max j k - j ∧ b = l + max j k - k := by
  unfold timesP at h
  split at h
  · rename_i hc
    injection h with h1 h2
    injection h2 with h2 _
    subst h1 h2
    simp only [Bool.and_eq_true] at hc
    obtain ⟨⟨⟨⟨⟨a, b⟩, c⟩, d⟩, e⟩, f⟩ := hc
    exact ⟨a, b, c, d, e, f, rfl, rfl⟩
  · injection h with _ h2; injection h2 with _ h3; cases h3
theorem timesP_mk {i j k l : Int} (h1 : pnB i = true) (h2 : pnB j = true) (h3 : pnB k = true) (h4 : pnB l = true) (h5 : pnB (i + max j k - j) = true) (h6 : pnB (l + max j k - k) = true) :
    timesP i j k l = (i + max j k - j, l + max j k - k, true) := by
  unfold timesP; rw [h1, h2, h3, h4, h5, h6]; rfl
/-- P58 -/
theorem pair_law {i j k l a b : Int} (h : timesP i j k l = (a, b, true)) : timesP l k j i = (b, a, true) ∧ 20 - a + b = 20 - i + j - k + l := by
  obtain ⟨h1, h2, h3, h4, h5, h6, e1, e2⟩ := timesP_eq h
  have hm : max k j = max j k := Int.max_comm _ _
  refine ⟨?_, by omega⟩
  rw [timesP_mk h4 h3 h2 h1 (by rw [hm, ← e2]; exact h6) (by rw [hm, ← e1]; exact h5), hm, ← e1, ← e2]
/-- P60 -/
theorem pairBelow_law {i j k l : Int} (h : belP i j k l = true) : timesP i j j i = (i, i, true) ∧ timesP i i k l = (i, j, true) := by
  unfold belP at h
  simp only [Bool.and_eq_true, decide_eq_true_eq] at h
  obtain ⟨⟨⟨⟨⟨h1, h2⟩, h3⟩, h4⟩, h5⟩, h6⟩ := h
  have e1 : max j j = j := Int.max_self j
  have e2 : max i k = i := Int.max_eq_left h6
  constructor
  · rw [timesP_mk h1 h2 h2 h1 (by rw [e1, show i + j - j = i by omega]; exact h1) (by rw [e1, show i + j - j = i by omega]; exact h1), e1, show i + j - j = i by omega]
  · rw [timesP_mk h1 h1 h3 h4 (by rw [e2, show i + i - i = i by omega]; exact h1) (by rw [e2, show l + i - k = j by omega]; exact h2), e2, show i + i - i = i by omega, show l + i - k = j by omega]
/-- one letter more: p is 112, q is 113 -/
def stpP (x : Nat × Nat) (b : UInt8) : Nat × Nat := if b = 112 then (x.1, x.2 + 1) else if x.2 = 0 then (x.1 + 1, 0) else (x.1, x.2 - 1)
def isPQ (b : UInt8) : Bool := b == 112 || b == 113
def fldP (l : List UInt8) : Nat × Nat := l.foldl stpP (0, 0)
def wordP (l : List UInt8) : Nat × Nat × Bool := if (decide (l.length ≤ 40) && l.all isPQ) = true then ((fldP l).1, (fldP l).2, true) else (0, 0, false)
theorem stpP_le (x : Nat × Nat) (b : UInt8) : (stpP x b).1 + (stpP x b).2 ≤ x.1 + x.2 + 1 := by
  unfold stpP
  split
  · show x.1 + (x.2 + 1) ≤ _; omega
  · split
    · show x.1 + 1 + 0 ≤ _; omega
    · show x.1 + (x.2 - 1) ≤ _; omega
theorem fldP_le (l : List UInt8) : (fldP l).1 + (fldP l).2 ≤ l.length := by
  have key : ∀ (l : List UInt8) (x : Nat × Nat), (l.foldl stpP x).1 + (l.foldl stpP x).2 ≤ x.1 + x.2 + l.length := by
    intro l
    induction l with
    | nil => intro x; exact Nat.le_refl _
    | cons b l ih =>
      intro x
      have h1 := ih (stpP x b)
      have h2 := stpP_le x b
      rw [List.foldl_cons, List.length_cons]
      omega
  have := key l (0, 0)
  unfold fldP
  omega
theorem fldP_snoc (l : List UInt8) (b : UInt8) : fldP (l ++ [b]) = stpP (fldP l) b := by unfold fldP; rw [List.foldl_append]; rfl
theorem stpP_p (x : Nat × Nat) : stpP x 112 = (x.1, x.2 + 1) := rfl
theorem stpP_pq (x : Nat × Nat) : stpP (stpP x 112) 113 = x := by rw [stpP_p]; rfl
/-- the step is the product -/
theorem timesP_p (i j : Nat) (h : i + j < 1000) : timesP i j 0 1 = ((((stpP (i, j) 112).1 : Nat) : Int), (((stpP (i, j) 112).2 : Nat) : Int), true) := by
  have e : max (j : Int) 0 = j := Int.max_eq_left (by omega)
  rw [timesP_mk (pnB_iff.2 (by omega)) (pnB_iff.2 (by omega)) (by decide) (by decide) (by rw [e]; exact pnB_iff.2 (by omega)) (by rw [e]; exact pnB_iff.2 (by omega)), e, stpP_p]
  refine Prod.ext (by show (i : Int) + j - j = i; omega) (Prod.ext (by show (1 : Int) + j - 0 = ((j + 1 : Nat) : Int); omega) rfl)
theorem timesP_q (i j : Nat) (h : i + j < 1000) : timesP i j 1 0 = ((((stpP (i, j) 113).1 : Nat) : Int), (((stpP (i, j) 113).2 : Nat) : Int), true) := by
  by_cases hj : j = 0
  · subst hj
    have e : max ((0 : Nat) : Int) 1 = 1 := by decide
    rw [timesP_mk (pnB_iff.2 (by omega)) (by decide) (by decide) (by decide) (by rw [e]; exact pnB_iff.2 (by omega)) (by rw [e]; decide), e]
    refine Prod.ext (by show (i : Int) + 1 - (0 : Nat) = ((i + 1 : Nat) : Int); omega) rfl
  · have e : max (j : Int) 1 = j := Int.max_eq_left (by omega)
    have hs : stpP (i, j) 113 = (i, j - 1) := by unfold stpP; rw [if_neg (by decide), if_neg hj]
    rw [timesP_mk (pnB_iff.2 (by omega)) (pnB_iff.2 (by omega)) (by decide) (by decide) (by rw [e]; exact pnB_iff.2 (by omega)) (by rw [e]; exact pnB_iff.2 (by omega)), e, hs]
    refine Prod.ext (by show (i : Int) + j - j = i; omega) (Prod.ext (by show (0 : Int) + j - 1 = ((j - 1 : Nat) : Int); omega) rfl)
/-- P59 -/
theorem pairWord_law {l : List UInt8} (h : l.length ≤ 38) (hw : (wordP l).2.2 = true) : wordP ([112, 113] ++ l) = wordP l ∧ wordP (l ++ [112, 113]) = wordP l := by
  unfold wordP at hw
  split at hw
  · rename_i hc
    have hall : l.all isPQ = true := (Bool.and_eq_true_iff.1 hc).2
    unfold wordP
    have h1 : fldP ([112, 113] ++ l) = fldP l := rfl
    have h2 : fldP (l ++ [112, 113]) = fldP l := by
      rw [show l ++ [112, 113] = (l ++ [112]) ++ [113] by simp, fldP_snoc, fldP_snoc, stpP_pq]
    rw [h1, h2, List.all_append, List.all_append, hall, List.length_append, List.length_append]
    have h3 : ([112, 113] : List UInt8).all isPQ = true := by decide
    rw [h3, decide_eq_true (show ([112, 113] : List UInt8).length + l.length ≤ 40 by show 2 + _ ≤ _; omega), decide_eq_true (show l.length + ([112, 113] : List UInt8).length ≤ 40 by show _ + 2 ≤ _; omega), decide_eq_true (show l.length ≤ 40 by omega)]
    exact ⟨rfl, rfl⟩
  · cases hw
end Go.Proofs.YtdljndpobklkjaaDoor
