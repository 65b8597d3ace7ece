/-
  Swaps as pairs of lists of bytes: what is as told, products, turned ones, moved texts, order, meets; no program.
-/
import Derived.Test.YtdljndpobklkjaaDoorBase
namespace Go.Proofs.YtdljndpobklkjaaDoor
set_option maxRecDepth 100000
open Go.RowKit Go.Lib

/-! ### texts as lists of bytes -/
def bs (l : List UInt8) : ByteArray := ⟨l.toArray⟩
theorem bs_of (s : ByteArray) : bs s.data.toList = s := by cases s; simp [bs]
theorem bs_size (l : List UInt8) : (bs l).size = l.length := by simp [bs, ByteArray.size]
theorem bs_list (l : List UInt8) : (bs l).toList = l := by unfold bs; rw [ByteArray.toList_mk]
theorem bs_data (l : List UInt8) : (bs l).data.toList = l := by simp [bs]
theorem bs_inj {a b : List UInt8} (h : bs a = bs b) : a = b := by rw [← bs_list a, ← bs_list b, h]
theorem bs_app (a b : List UInt8) : bs a ++ bs b = bs (a ++ b) := by
  apply ByteArray.ext; simp [bs]
theorem bs_ext (l : List UInt8) (i j : Nat) : (bs l).extract i j = bs ((l.take j).drop i) := by
  apply ByteArray.ext
  simp [bs, List.extract_eq_take_drop, List.drop_take]
theorem bs_tail (l : List UInt8) (i : Nat) : (bs l).extract i l.length = bs (l.drop i) := by rw [bs_ext, List.take_length]
theorem bs_head (l : List UInt8) (i : Nat) : (bs l).extract 0 i = bs (l.take i) := by rw [bs_ext, List.drop_zero]

/-! ### texts of two signs -/
def isS (b : UInt8) : Bool := b == 48 || b == 49
def sgB (l : List UInt8) (m : Nat) : Bool := l.all isS && decide (l.length ≤ m)
theorem sgB_iff {l : List UInt8} {m : Nat} : sgB l m = true ↔ (∀ b ∈ l, isS b = true) ∧ l.length ≤ m := by unfold sgB; rw [Bool.and_eq_true, List.all_eq_true, decide_eq_true_eq]
def beg (s t : List UInt8) : Bool := t.isPrefixOf s
theorem beg_iff {s t : List UInt8} : beg s t = true ↔ ∃ e, s = t ++ e := by
  unfold beg
  rw [List.isPrefixOf_iff_prefix]
  exact ⟨fun ⟨e, h⟩ => ⟨e, h.symm⟩, fun ⟨e, h⟩ => ⟨e, h.symm⟩⟩
theorem beg_drop {s t : List UInt8} (h : beg s t = true) : t ++ s.drop t.length = s := by
  obtain ⟨e, rfl⟩ := beg_iff.1 h
  rw [List.drop_left]

/-- a swap -/
structure SW where
  f : List UInt8
  t : List UInt8
  n : Bool
theorem SW.eq {a b : SW} (h1 : a.f = b.f) (h2 : a.t = b.t) (h3 : a.n = b.n) : a = b := by cases a; cases b; simp_all
def SW.zero : SW := ⟨[], [], false⟩
def SW.none : SW := ⟨[], [], true⟩
def swV (s : SW) : Value := .agg #[.string (bs s.f), .string (bs s.t), .bool s.n]
def inS (s : SW) : Bool := sgB s.f 20 && sgB s.t 20 && (!s.n || (s.f.isEmpty && s.t.isEmpty))
def turnS (s : SW) : SW := ⟨s.t, s.f, s.n⟩
def actS (s : SW) (x : List UInt8) : Option (List UInt8) := if (!s.n && beg x s.f) = true then some (s.t ++ x.drop s.f.length) else Option.none
def mulS (s t : SW) : SW :=
  if (s.n || t.n) = true then .none
  else if beg t.f s.t = true then ⟨s.f ++ t.f.drop s.t.length, t.t, false⟩
  else if beg s.t t.f = true then ⟨s.f, t.t ++ s.t.drop t.f.length, false⟩
  else .none
def timesS (s t : SW) : SW × Bool := if (inS s && inS t && inS (mulS s t)) = true then (mulS s t, true) else (.zero, false)
def turnedS (s : SW) : SW × Bool := if inS s = true then (turnS s, true) else (.zero, false)
def idemS (s : SW) : Bool := inS s && s.f == s.t
def movS (s : SW) (x : List UInt8) : List UInt8 × Bool :=
  if (inS s && sgB x 40) = true then match actS s x with | some y => (y, true) | .none => ([], false) else ([], false)
def belS (s t : SW) : Bool :=
  if (s.n || t.n) = true then s.n else beg s.f t.f && beg s.t t.t && s.f.drop t.f.length == s.t.drop t.t.length
def belowS (s t : SW) : Bool := inS s && inS t && belS s t
def meetS (s t : SW) : SW × Bool :=
  if (inS s && inS t) = false then (.zero, false) else if belS s t = true then (s, true) else if belS t s = true then (t, true) else (.none, true)

theorem inS_iff {s : SW} : inS s = true ↔ sgB s.f 20 = true ∧ sgB s.t 20 = true ∧ (s.n = true → s.f = [] ∧ s.t = []) := by
  unfold inS
  rw [Bool.and_eq_true, Bool.and_eq_true, and_assoc]
  refine and_congr_right fun _ => and_congr_right fun _ => ?_
  cases s.n <;> simp [List.isEmpty_iff]
theorem in_none : inS .none = true := by decide
theorem in_turn {s : SW} (h : inS s = true) : inS (turnS s) = true := by
  obtain ⟨a, b, c⟩ := inS_iff.1 h
  exact inS_iff.2 ⟨b, a, fun e => (c e).symm⟩
theorem turn_turn (s : SW) : turnS (turnS s) = s := rfl
theorem none_of {s : SW} (h : inS s = true) (hn : s.n = true) : s = .none := by
  obtain ⟨_, _, c⟩ := inS_iff.1 h
  exact SW.eq (c hn).1 (c hn).2 hn

/-! ### what swaps move -/
theorem act_iff {s : SW} {x y : List UInt8} : actS s x = some y ↔ s.n = false ∧ ∃ e, x = s.f ++ e ∧ y = s.t ++ e := by
  unfold actS
  by_cases h : (!s.n && beg x s.f) = true
  · rw [if_pos h]
    rw [Bool.and_eq_true, Bool.not_eq_true', beg_iff] at h
    obtain ⟨hn, e, he⟩ := h
    constructor
    · intro hy
      exact ⟨hn, e, he, by rw [← Option.some.inj hy, he, List.drop_left]⟩
    · rintro ⟨_, e', he', rfl⟩
      rw [he', List.drop_left]
  · rw [if_neg h]
    constructor
    · intro hy; cases hy
    · rintro ⟨hn, e, he, _⟩
      exact absurd (by rw [hn, beg_iff.2 ⟨e, he⟩]; rfl) h
theorem mul_none_left (t : SW) : mulS .none t = .none := rfl
theorem mul_none_right (s : SW) : mulS s .none = .none := by unfold mulS; rw [show SW.none.n = true from rfl, Bool.or_true]; rfl
/-- the product moves as both in turn -/
theorem act_mul (s t : SW) (x : List UInt8) : actS (mulS s t) x = (actS s x).bind (actS t) := by
  apply Option.ext
  intro y
  rw [Option.bind_eq_some_iff]
  simp only [act_iff]
  unfold mulS
  by_cases hn : (s.n || t.n) = true
  · rw [if_pos hn]
    constructor
    · rintro ⟨h, _⟩; cases h
    · rintro ⟨z, ⟨h1, _⟩, h2, _⟩; rw [h1, h2] at hn; cases hn
  · rw [if_neg hn]
    have hs : s.n = false := by cases h : s.n with | false => rfl | true => rw [h] at hn; exact absurd rfl hn
    have ht : t.n = false := by cases h : t.n with | false => rfl | true => rw [h, Bool.or_true] at hn; exact absurd rfl hn
    by_cases h1 : beg t.f s.t = true
    · rw [if_pos h1]
      obtain ⟨d, hd⟩ := beg_iff.1 h1
      constructor
      · rintro ⟨_, e, hx, hy⟩
        simp only [hd, List.drop_left] at hx
        exact ⟨s.t ++ (d ++ e), ⟨hs, d ++ e, by rw [hx, List.append_assoc], rfl⟩, ht, e, by rw [hd, List.append_assoc], hy⟩
      · rintro ⟨z, ⟨_, e, hx, hz⟩, _, e', hz', hy⟩
        refine ⟨rfl, e', ?_, hy⟩
        rw [hz, hd, List.append_assoc] at hz'
        have := List.append_cancel_left hz'
        simp only [hd, List.drop_left]
        rw [hx, this, List.append_assoc]
    · rw [if_neg h1]
      by_cases h2 : beg s.t t.f = true
      · rw [if_pos h2]
        obtain ⟨d, hd⟩ := beg_iff.1 h2
        constructor
        · rintro ⟨_, e, hx, hy⟩
          simp only [hd, List.drop_left] at hy
          exact ⟨s.t ++ e, ⟨hs, e, hx, rfl⟩, ht, d ++ e, by rw [hd, List.append_assoc], by rw [hy, List.append_assoc]⟩
        · rintro ⟨z, ⟨_, e, hx, hz⟩, _, e', hz', hy⟩
          refine ⟨rfl, e, hx, ?_⟩
          rw [hz, hd, List.append_assoc] at hz'
          have := List.append_cancel_left hz'
          simp only [hd, List.drop_left]
          rw [hy, ← this, List.append_assoc]
      · rw [if_neg h2]
        constructor
        · rintro ⟨h, _⟩; cases h
        · rintro ⟨z, ⟨_, e, hx, hz⟩, _, e', hz', hy⟩
          rw [hz] at hz'
          rcases List.append_eq_append_iff.1 hz' with ⟨d, a, _⟩ | ⟨d, a, _⟩
          · exact absurd (beg_iff.2 ⟨d, a⟩) h1
          · exact absurd (beg_iff.2 ⟨d, a⟩) h2
/-- told: what is made of a product, or none with empty texts -/
def nrm (s : SW) : Prop := s.n = true → s = .none
theorem nrm_of {s : SW} (h : inS s = true) : nrm s := none_of h
theorem nrm_mul (s t : SW) : nrm (mulS s t) := by
  unfold mulS
  split
  · exact fun _ => rfl
  · split
    · intro h; cases h
    · split
      · intro h; cases h
      · exact fun _ => rfl
/-- swaps that move alike are the same -/
theorem eq_of_act {a b : SW} (ha : nrm a) (hb : nrm b) (h : ∀ x, actS a x = actS b x) : a = b := by
  cases hna : a.n with
  | true =>
    cases hnb : b.n with
    | true => rw [ha hna, hb hnb]
    | false =>
      have h1 : actS b b.f = some b.t := act_iff.2 ⟨hnb, [], by simp, by simp⟩
      rw [← h, act_iff] at h1
      rw [hna] at h1; exact absurd h1.1 (by decide)
  | false =>
    have h1 : actS a a.f = some a.t := act_iff.2 ⟨hna, [], by simp, by simp⟩
    rw [h, act_iff] at h1
    obtain ⟨hnb, e, h2, h3⟩ := h1
    have h4 : actS b b.f = some b.t := act_iff.2 ⟨hnb, [], by simp, by simp⟩
    rw [← h, act_iff] at h4
    obtain ⟨_, e', h5, h6⟩ := h4
    have he : e = [] := by
      have := congrArg List.length h2
      have h7 := congrArg List.length h5
      simp at this h7
      exact List.length_eq_zero_iff.1 (by omega)
    subst he
    exact SW.eq (by simpa using h2) (by simpa using h3) (by rw [hna, hnb])
theorem mul_assoc (a b c : SW) : mulS (mulS a b) c = mulS a (mulS b c) := by
  refine eq_of_act (nrm_mul _ _) (nrm_mul _ _) fun x => ?_
  rw [act_mul, act_mul, act_mul, Option.bind_assoc]
  congr 1
  funext z
  rw [act_mul]
theorem act_turn {s : SW} {x y : List UInt8} : actS (turnS s) y = some x ↔ actS s x = some y := by
  rw [act_iff, act_iff]
  exact ⟨fun ⟨h, e, a, b⟩ => ⟨h, e, b, a⟩, fun ⟨h, e, a, b⟩ => ⟨h, e, b, a⟩⟩
theorem nrm_turn {s : SW} (h : nrm s) : nrm (turnS s) := fun hn => by rw [h hn]; rfl
theorem turn_mul (s t : SW) : turnS (mulS s t) = mulS (turnS t) (turnS s) := by
  refine eq_of_act (nrm_turn (nrm_mul _ _)) (nrm_mul _ _) fun x => ?_
  apply Option.ext
  intro y
  rw [act_turn, act_mul, act_mul, Option.bind_eq_some_iff, Option.bind_eq_some_iff]
  exact ⟨fun ⟨z, a, b⟩ => ⟨z, act_turn.2 b, act_turn.2 a⟩, fun ⟨z, a, b⟩ => ⟨z, act_turn.1 b, act_turn.1 a⟩⟩
theorem mul_self_turn {s : SW} (h : nrm s) : mulS (mulS s (turnS s)) s = s := by
  refine eq_of_act (nrm_mul _ _) h fun x => ?_
  rw [act_mul, act_mul]
  cases hx : actS s x with
  | none => rfl
  | some y =>
    rw [Option.bind_some, act_turn.2 hx, Option.bind_some, hx]
end Go.Proofs.YtdljndpobklkjaaDoor
