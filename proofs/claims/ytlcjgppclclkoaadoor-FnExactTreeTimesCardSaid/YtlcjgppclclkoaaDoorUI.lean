/-
  Tm.
-/
import Derived.Test.YtlcjgppclclkoaaDoorTX
namespace Go.Proofs.YtlcjgppclclkoaaDoor
set_option maxRecDepth 100000
set_option linter.unusedVariables false
set_option linter.unusedSimpArgs false
set_option linter.unusedSectionVars false

/-! Trees that are made: of a word, of two trees, turned; no program. -/
section
open Go.RowKit Go.Lib Go.Sort

/-- told as they are, sorted words are a tree just if they are few and short enough -/
theorem tinq_sml {L : List (List (Fin 4))} {u : List (Fin 4)} (T : Tre L) (ho : Ord L) (hu : u ∈ L) : TinQ (L.map strOf) (strOf u) ↔ smlB L = true := by
  constructor
  · rintro ⟨S, v, h1, h2, hv, hT⟩
    have := strs_inj h1
    subst this
    exact hT.sml
  · intro h
    exact ⟨L, u, rfl, rfl, hu, tin_of T (List.Perm.refl L) ho h⟩
theorem tre_along {N : List (List (Fin 4))} {u : List (Fin 4)} (T : Tre N) (hu : u ∈ N) : ∀ ws : List (Fin 4), ∃ N', Tre N' ∧ goW u ws ∈ N' ∧ ∀ x, x ∈ N' ↔ x ∈ N ∨ ∃ t, t ≤ ws.length ∧ x = goW u (ws.take t) := by
  intro ws
  induction ws generalizing N u with
  | nil => exact ⟨N, T, hu, fun x => ⟨.inl, fun h => h.elim id fun ⟨t, ht, e⟩ => by simp at e; rw [e]; exact hu⟩⟩
  | cons c ws ih =>
    obtain ⟨N1, T1, h1, h2⟩ : ∃ N1, Tre N1 ∧ stp u c ∈ N1 ∧ ∀ x, x ∈ N1 ↔ x ∈ N ∨ x = stp u c := by
      by_cases h : stp u c ∈ N
      · exact ⟨N, T, h, fun x => ⟨.inl, fun h' => h'.elim id fun e => by rw [e]; exact h⟩⟩
      · exact ⟨N ++ [stp u c], T.add hu h, by simp, fun x => by simp⟩
    obtain ⟨N2, T2, h3, h4⟩ := ih T1 h1
    refine ⟨N2, T2, h3, fun x => ?_⟩
    rw [h4, h2]
    constructor
    · rintro ((h | h) | ⟨t, ht, e⟩)
      · exact .inl h
      · exact .inr ⟨1, by simp, by rw [h]; rfl⟩
      · exact .inr ⟨t + 1, by simp; omega, e⟩
    · rintro (h | ⟨t, ht, e⟩)
      · exact .inl (.inl h)
      · cases t with
        | zero => exact .inl (.inl (by rw [e]; exact hu))
        | succ t => exact .inr ⟨t, by simp at ht; omega, e⟩
theorem begs_cons {u : List (Fin 4)} {xs : List (List (Fin 4))} {ws x : List (Fin 4)} : Begs u (ws :: xs) x ↔ (∃ t, t ≤ ws.length ∧ x = goW u (ws.take t)) ∨ Begs u xs x := by
  unfold Begs
  constructor
  · rintro ⟨v, hv, h⟩
    rcases List.mem_cons.1 hv with e | h'
    · rw [e] at h; exact .inl h
    · exact .inr ⟨v, h', h⟩
  · rintro (h | ⟨v, hv, h⟩)
    · exact ⟨ws, List.mem_cons_self, h⟩
    · exact ⟨v, List.mem_cons_of_mem _ hv, h⟩
theorem tre_begs {u : List (Fin 4)} : ∀ (xs : List (List (Fin 4))) {N : List (List (Fin 4))}, Tre N → u ∈ N → ∃ N', Tre N' ∧ ∀ x, x ∈ N' ↔ x ∈ N ∨ Begs u xs x := by
  intro xs
  induction xs with
  | nil => exact fun {N} T _ => ⟨N, T, fun x => ⟨.inl, fun h => h.elim id fun ⟨v, hv, _⟩ => by cases hv⟩⟩
  | cons ws xs ih =>
    intro N T hu
    obtain ⟨N1, T1, _, h1⟩ := tre_along T hu ws
    obtain ⟨N2, T2, h2⟩ := ih T1 ((h1 u).2 (.inl hu))
    exact ⟨N2, T2, fun x => by rw [h2, h1, begs_cons, or_assoc]⟩
/-- a list with a tree's words is one -/
theorem Tre.like {N L : List (List (Fin 4))} (T : Tre N) (hnd : L.Nodup) (h : ∀ x, x ∈ L ↔ x ∈ N) : Tre L := ⟨hnd, (h _).2 T.nil, fun u hu => T.rd u ((h u).1 hu), fun c u hu => (h u).2 (T.cl c u ((h _).1 hu))⟩
theorem tre_of {L : List (List (Fin 4))} {ws : List (Fin 4)} (ho : Ord L) (h : ∀ x, x ∈ L ↔ Begs [] [ws] x) : Tre L := by
  obtain ⟨N, T, hN⟩ := tre_begs [ws] tre_one (by simp : ([] : List (Fin 4)) ∈ [[]])
  refine T.like (ord_nodup ho) fun x => ?_
  rw [h, hN]
  exact ⟨.inr, fun h' => h'.elim (fun e => ⟨ws, by simp, 0, Nat.zero_le _, by rw [List.mem_singleton.1 e]; rfl⟩) id⟩
/-- the beginnings of a tree's words, from another node on -/
theorem begs_mul {S : List (List (Fin 4))} {u : List (Fin 4)} (h : Tin S) (hu : Rdc u) (x : List (Fin 4)) : Begs u (S.map List.reverse) x ↔ ∃ v ∈ S, x = mulW u v := by
  constructor
  · rintro ⟨ws, hws, t, _, rfl⟩
    obtain ⟨v, hv, rfl⟩ := List.mem_map.1 hws
    exact ⟨v.drop (v.length - t), h.drop _ hv, by rw [take_rev]; rfl⟩
  · rintro ⟨v, hv, rfl⟩
    exact ⟨v.reverse, List.mem_map.2 ⟨v, hv, rfl⟩, v.reverse.length, Nat.le_refl _, by rw [List.take_length]; rfl⟩
theorem tre_mul {S S' L : List (List (Fin 4))} {u : List (Fin 4)} (h : Tin S) (hu : u ∈ S) (h' : Tin S') (ho : Ord L) (hL : ∀ x, x ∈ L ↔ x ∈ S ∨ ∃ v ∈ S', x = mulW u v) : Tre L := by
  obtain ⟨N, T, hN⟩ := tre_begs (S'.map List.reverse) h.tre hu
  exact T.like (ord_nodup ho) fun x => by rw [hL, hN, begs_mul h' (h.rd u hu)]
theorem invW_nil : invW [] = [] := rfl
theorem mul_tail {u v : List (Fin 4)} {S : List (List (Fin 4))} (hS : ∀ c x, c :: x ∈ S → x ∈ S) (hu : Rdc u) (huS : u ∈ S) : v ∈ S → ∀ k, ∃ y ∈ S, (mulW (invW u) v).drop k = mulW (invW u) y := by
  have hdr : ∀ (u : List (Fin 4)) (k : Nat), u ∈ S → u.drop k ∈ S := by
    intro u
    induction u with
    | nil => intro k h; simpa using h
    | cons c u ih =>
      intro k h
      cases k with
      | zero => exact h
      | succ k => exact ih k (hS c u h)
  induction v with
  | nil =>
    intro _ k
    rw [mulW_nil]
    refine ⟨u.drop (u.length - k), hdr u _ huS, ?_⟩
    by_cases hk : u.length ≤ k
    · have : u.length - k = 0 := by omega
      rw [this, List.drop_zero, inv_mul hu, List.drop_of_length_le (by rw [invW_length]; exact hk)]
    · -- the inverse's beginning
      have h1 : (invW u).drop k = invW (u.take (u.length - k)) := by
        unfold invW
        rw [List.drop_reverse, List.length_map, List.map_take]
      have h2 : u = u.take (u.length - k) ++ u.drop (u.length - k) := (List.take_append_drop _ _).symm
      have hd : Rdc (u.drop (u.length - k)) := hu.drop_ _
      have ha : Rdc (invW (u.take (u.length - k))) := by rw [← h1]; exact (invW_rdc hu).drop_ _
      have hta : Rdc (u.take (u.length - k)) := by have := invW_rdc ha; rwa [invW_invW] at this
      have h3 : mulW (u.drop (u.length - k)) (u.take (u.length - k)) = u := by
        unfold mulW
        conv => rhs; rw [← rdc_go hu]
        rw [← rdc_go hd, ← goW_app]
        congr 1
        conv => rhs; rw [h2]
        rw [List.reverse_append]
      have h4 : mulW (invW u) (u.drop (u.length - k)) = mulW (mulW (invW u) (mulW (u.drop (u.length - k)) (u.take (u.length - k)))) (invW (u.take (u.length - k))) := by
        rw [← mulW_assoc (invW_rdc hu), ← mulW_assoc hd, mul_inv hta, mulW_nil]
      rw [h1, h4, h3, inv_mul hu, nil_mulW ha]
  | cons c v ih =>
    intro hv k
    rw [mulW_cons]
    rcases stp_cases (u := mulW (invW u) v) (c := c) with e | ⟨d, y, e1, e2, e3⟩
    · rw [e]
      cases k with
      | zero => exact ⟨c :: v, hv, by rw [mulW_cons, e]; rfl⟩
      | succ k => rw [List.drop_succ_cons]; exact ih (hS c v hv) k
    · rw [e3]
      obtain ⟨y', h1, h2⟩ := ih (hS c v hv) (k + 1)
      rw [e1, List.drop_succ_cons] at h2
      exact ⟨y', h1, h2⟩
theorem tre_turn {S L : List (List (Fin 4))} {u : List (Fin 4)} (h : Tin S) (hu : u ∈ S) (ho : Ord L) (hL : ∀ x, x ∈ L ↔ ∃ v ∈ S, x = mulW (invW u) v) : Tre L := by
  have hr := h.rd u hu
  refine ⟨ord_nodup ho, (hL _).2 ⟨u, hu, (inv_mul hr).symm⟩, fun x hx => ?_, fun c x hx => ?_⟩
  · obtain ⟨v, _, rfl⟩ := (hL x).1 hx
    exact mulW_rdc v (invW_rdc hr)
  · obtain ⟨v, hv, e⟩ := (hL _).1 hx
    obtain ⟨y, hy, e2⟩ := mul_tail h.cl hr hu hv 1
    rw [← e, List.drop_succ_cons, List.drop_zero] at e2
    exact (hL x).2 ⟨y, hy, e2⟩

/-! ### what is answered -/
def resL : Option (List (List (Fin 4)) × List (Fin 4)) → List ByteArray
  | none => []
  | some (S, _) => S.map strOf
def resE : Option (List (List (Fin 4)) × List (Fin 4)) → ByteArray
  | none => ⟨#[]⟩
  | some (_, u) => strOf u
def OfOk (s : ByteArray) (R : Option (List (List (Fin 4)) × List (Fin 4))) : Prop :=
  (wordB s = false ∧ R = none) ∨ ∃ ws S, s = txt ws ∧ wordB s = true ∧ Ord S ∧ (∀ x, x ∈ S ↔ Begs [] [ws] x) ∧ R = some (S, redS ws)
theorem OfOk.same {s : ByteArray} {R R' : Option (List (List (Fin 4)) × List (Fin 4))} (h : OfOk s R) (h' : OfOk s R') : R = R' := by
  rcases h with ⟨h, rfl⟩ | ⟨ws, S, h1, h, h2, h3, rfl⟩ <;> rcases h' with ⟨h', rfl⟩ | ⟨ws', S', h1', h', h2', h3', rfl⟩
  · rfl
  · rw [h] at h'; cases h'
  · rw [h] at h'; cases h'
  · have := txt_inj (h1.symm.trans h1')
    subst this
    rw [ord_eq h2 h2' (fun x => (h3 x).trans (h3' x).symm)]
def TimesOk (zs ys : List ByteArray) (s t : ByteArray) (R : Option (List (List (Fin 4)) × List (Fin 4))) : Prop :=
  (¬ (TinQ zs s ∧ TinQ ys t) ∧ R = none) ∨ ∃ S u S' u' L, TinS zs s S u ∧ TinS ys t S' u' ∧ Ord L ∧ (∀ x, x ∈ L ↔ x ∈ S ∨ ∃ v ∈ S', x = mulW u v) ∧ R = if smlB L = true then some (L, mulW u u') else none
theorem TimesOk.same {zs ys : List ByteArray} {s t : ByteArray} {R R' : Option (List (List (Fin 4)) × List (Fin 4))} (h : TimesOk zs ys s t R) (h' : TimesOk zs ys s t R') : R = R' := by
  rcases h with ⟨h, rfl⟩ | ⟨S, u, S', u', L, h1, h2, h3, h4, rfl⟩ <;> rcases h' with ⟨h', rfl⟩ | ⟨X, v, X', v', M, k1, k2, k3, k4, rfl⟩
  · rfl
  · exact absurd ⟨⟨_, _, k1⟩, ⟨_, _, k2⟩⟩ h
  · exact absurd ⟨⟨_, _, h1⟩, ⟨_, _, h2⟩⟩ h'
  · obtain ⟨rfl, rfl⟩ := h1.uniq k1
    obtain ⟨rfl, rfl⟩ := h2.uniq k2
    rw [ord_eq h3 k3 (fun x => (h4 x).trans (k4 x).symm)]
def TurnOk (zs : List ByteArray) (s : ByteArray) (R : Option (List (List (Fin 4)) × List (Fin 4))) : Prop :=
  (¬ TinQ zs s ∧ R = none) ∨ ∃ S u L, TinS zs s S u ∧ Ord L ∧ (∀ x, x ∈ L ↔ ∃ v ∈ S, x = mulW (invW u) v) ∧ R = if smlB L = true then some (L, invW u) else none
theorem TurnOk.same {zs : List ByteArray} {s : ByteArray} {R R' : Option (List (List (Fin 4)) × List (Fin 4))} (h : TurnOk zs s R) (h' : TurnOk zs s R') : R = R' := by
  rcases h with ⟨h, rfl⟩ | ⟨S, u, L, h1, h3, h4, rfl⟩ <;> rcases h' with ⟨h', rfl⟩ | ⟨X, v, M, k1, k3, k4, rfl⟩
  · rfl
  · exact absurd ⟨_, _, k1⟩ h
  · exact absurd ⟨_, _, h1⟩ h'
  · obtain ⟨rfl, rfl⟩ := h1.uniq k1
    rw [ord_eq h3 k3 (fun x => (h4 x).trans (k4 x).symm)]
/-- a tree that is answered, in memory of its own -/
def TreePost (R : Option (List (List (Fin 4)) × List (Fin 4))) (w : World) (e' : Ending) (w' : World) : Prop :=
  RowKit.Below w.heap.size w w' ∧ ∃ (A : Option Addr) (n c : Nat), e' = .returned (.tuple #[.agg #[.slice A n c, .string (resE R)], .bool R.isSome]) ∧ w'.ownsRow w.heap.size 9 1 (.slice A n c) n (svL (resL R))
end

end Go.Proofs.YtlcjgppclclkoaaDoor
