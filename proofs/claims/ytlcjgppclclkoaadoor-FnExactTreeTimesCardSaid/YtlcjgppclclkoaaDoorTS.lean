/-
  Ti.
-/
import Derived.Test.YtlcjgppclclkoaaDoorTQ
namespace Go.Proofs.YtlcjgppclclkoaaDoor
set_option maxRecDepth 100000
set_option linter.unusedVariables false
set_option linter.unusedSimpArgs false
set_option linter.unusedSectionVars false

/-! Trees as they are told; products of reduced words; no program. -/
section
open Go.RowKit

theorem txt_inj {u v : List (Fin 4)} (h : txt u = txt v) : u = v := by
  have := congrArg (fun s : ByteArray => s.data.toList) h
  simp only [txt_list] at this
  exact map_inj this
theorem rdc_cons {c : Fin 4} {u : List (Fin 4)} (h : Rdc (c :: u)) : stp u c = c :: u := by
  cases u with
  | nil => rfl
  | cons d v => rw [stp_cons, if_neg (h.1 d (by simp))]
theorem rdc_go : ∀ {u : List (Fin 4)}, Rdc u → goW [] u.reverse = u
  | [], _ => rfl
  | c :: u, h => by rw [List.reverse_cons, goW_snoc, rdc_go h.2, rdc_cons h]
theorem rdc_nil : Rdc [] := trivial
theorem go_rdc {ws : List (Fin 4)} (h : goW [] ws = ws.reverse) : Rdc ws.reverse := by rw [← h]; exact goW_rdc rdc_nil
theorem goW_app (u a b : List (Fin 4)) : goW u (a ++ b) = goW (goW u a) b := by unfold goW; rw [List.foldl_append]
theorem Rdc.drop_ : ∀ {u : List (Fin 4)} (k : Nat), Rdc u → Rdc (u.drop k)
  | _, 0, h => by simpa using h
  | [], k + 1, h => by simpa using h
  | c :: u, k + 1, h => by rw [List.drop_succ_cons]; exact Rdc.drop_ k h.2

/-- told as a tree -/
structure Tin (S : List (List (Fin 4))) : Prop where
  ord : Ord S
  nil : [] ∈ S
  rd : ∀ u ∈ S, Rdc u
  cl : ∀ c u, c :: u ∈ S → u ∈ S
  len : S.length ≤ 60
  sh : ∀ u ∈ S, u.length ≤ 24
theorem ord_nodup {S : List (List (Fin 4))} (h : Ord S) : S.Nodup := List.Pairwise.imp (fun hlt e => by subst e; exact ltW_irrefl _ hlt) h
theorem Tin.tre {S : List (List (Fin 4))} (h : Tin S) : Tre S := ⟨ord_nodup h.ord, h.nil, h.rd, h.cl⟩
theorem Tin.drop {S : List (List (Fin 4))} (h : Tin S) : ∀ {u : List (Fin 4)} (k : Nat), u ∈ S → u.drop k ∈ S
  | _, 0, hu => by simpa using hu
  | [], k + 1, hu => by simpa using hu
  | c :: u, k + 1, hu => by rw [List.drop_succ_cons]; exact Tin.drop h k (h.cl c u hu)
def TinS (ss : List ByteArray) (e : ByteArray) (S : List (List (Fin 4))) (u : List (Fin 4)) : Prop := ss = S.map strOf ∧ e = strOf u ∧ u ∈ S ∧ Tin S
def TinQ (ss : List ByteArray) (e : ByteArray) : Prop := ∃ S u, TinS ss e S u
theorem strs_inj : ∀ {S S' : List (List (Fin 4))}, S.map strOf = S'.map strOf → S = S' := fun h => (List.map_inj_right (fun a b e => strOf_inj e)).1 h
theorem TinS.uniq {ss : List ByteArray} {e : ByteArray} {S S' : List (List (Fin 4))} {u u' : List (Fin 4)} (h : TinS ss e S u) (h' : TinS ss e S' u') : S = S' ∧ u = u' :=
  ⟨strs_inj (h.1.symm.trans h'.1), strOf_inj (h.2.1.symm.trans h'.2.1)⟩
theorem strOf_word {u : List (Fin 4)} (h : u.length ≤ 24) : wordB (strOf u) = true := by
  rw [strOf_txt]; exact txt_word (by rw [List.length_reverse]; exact h)
theorem TinS.words {ss : List ByteArray} {e : ByteArray} {S : List (List (Fin 4))} {u : List (Fin 4)} (h : TinS ss e S u) : ss.all wordB = true ∧ wordB e = true ∧ ss.length ≤ 60 := by
  obtain ⟨rfl, rfl, hu, hT⟩ := h
  refine ⟨List.all_eq_true.2 fun s hs => ?_, strOf_word (hT.sh u hu), by rw [List.length_map]; exact hT.len⟩
  obtain ⟨v, hv, rfl⟩ := List.mem_map.1 hs
  exact strOf_word (hT.sh v hv)

theorem take_rev (v : List (Fin 4)) (t : Nat) : v.reverse.take t = (v.drop (v.length - t)).reverse := by rw [List.take_reverse]
/-- the beginnings of a tree's words are the tree -/
theorem tin_begs {S : List (List (Fin 4))} {u : List (Fin 4)} (h : Tin S) (hu : u ∈ S) (x : List (Fin 4)) : Begs [] (S.map List.reverse ++ [u.reverse]) x ↔ x ∈ S := by
  constructor
  · rintro ⟨ws, hws, t, _, rfl⟩
    obtain ⟨v, hv, rfl⟩ : ∃ v ∈ S, ws = v.reverse := by
      rcases List.mem_append.1 hws with h' | h'
      · obtain ⟨v, hv, e⟩ := List.mem_map.1 h'; exact ⟨v, hv, e.symm⟩
      · exact ⟨u, hu, List.mem_singleton.1 h'⟩
    rw [take_rev, rdc_go ((h.rd v hv).drop_ _)]
    exact h.drop _ hv
  · intro hx
    exact ⟨x.reverse, List.mem_append_left _ (List.mem_map.2 ⟨x, hx, rfl⟩), x.reverse.length, Nat.le_refl _, by rw [List.take_length, rdc_go (h.rd x hx)]⟩
theorem sml_mem {N : List (List (Fin 4))} (h : smlB N = true) : N.length ≤ 60 ∧ ∀ u ∈ N, u.length ≤ 24 := by
  unfold smlB at h
  rw [Bool.and_eq_true, decide_eq_true_eq, List.all_eq_true] at h
  exact ⟨h.1, fun u hu => of_decide_eq_true (h.2 u hu)⟩
theorem sml_mk {N : List (List (Fin 4))} (h1 : N.length ≤ 60) (h2 : ∀ u ∈ N, u.length ≤ 24) : smlB N = true := by
  unfold smlB
  rw [Bool.and_eq_true, decide_eq_true_eq, List.all_eq_true]
  exact ⟨h1, fun u hu => decide_eq_true (h2 u hu)⟩
theorem Tin.sml {S : List (List (Fin 4))} (h : Tin S) : smlB S = true := sml_mk h.len h.sh
theorem tin_of {N S : List (List (Fin 4))} (T : Tre N) (hp : S.Perm N) (ho : Ord S) (hs : smlB N = true) : Tin S :=
  ⟨ho, hp.mem_iff.2 T.nil, fun u hu => T.rd u (hp.mem_iff.1 hu), fun c u hu => hp.mem_iff.2 (T.cl c u (hp.mem_iff.1 hu)), by rw [hp.length_eq]; exact (sml_mem hs).1, fun u hu => (sml_mem hs).2 u (hp.mem_iff.1 hu)⟩
/-- what has grown along some words is told as they are just if they are a tree -/
theorem tin_iff {ss : List ByteArray} {e : ByteArray} {xs : List (List (Fin 4))} {es : List (Fin 4)} (hss : ss = xs.map txt) (he : e = txt es) {N S : List (List (Fin 4))} (T : Tre N) (hp : S.Perm N) (ho : Ord S)
    (hX : ∀ x, x ∈ N ↔ Begs [] (xs ++ [es]) x) (hE : goW [] es ∈ N) : TinQ ss e ↔ smlB N = true ∧ e = strOf (goW [] es) ∧ ss = S.map strOf := by
  constructor
  · rintro ⟨S', u, h1, h2, hu, hT⟩
    have exs : xs = S'.map List.reverse := by
      rw [hss] at h1
      have h3 : S'.map strOf = (S'.map List.reverse).map txt := by rw [List.map_map]; rfl
      rw [h3] at h1
      exact (List.map_inj_right (fun a b e => txt_inj e)).1 h1
    have ees : es = u.reverse := by
      rw [he, strOf_txt] at h2; exact txt_inj h2
    subst exs ees
    have hm : ∀ x, x ∈ N ↔ x ∈ S' := fun x => (hX x).trans (tin_begs hT hu x)
    have hS : S = S' := ord_eq ho hT.ord (fun x => hp.mem_iff.trans (hm x))
    subst hS
    refine ⟨by rw [← sml_perm hp]; exact hT.sml, ?_, h1⟩
    rw [rdc_go (hT.rd u hu)]; exact h2
  · rintro ⟨h1, h2, h3⟩
    exact ⟨S, goW [] es, h3, h2, hp.mem_iff.2 hE, tin_of T hp ho h1⟩
theorem tin_same {ss : List ByteArray} {e : ByteArray} {S N : List (List (Fin 4))} {u es : List (Fin 4)} {xs : List (List (Fin 4))} (hT : TinS ss e S u) (hss : ss = xs.map txt) (he : e = txt es) (hX : ∀ x, x ∈ N ↔ Begs [] (xs ++ [es]) x) : (∀ x, x ∈ N ↔ x ∈ S) ∧ goW [] es = u := by
  obtain ⟨h1, h2, hu, hT⟩ := hT
  have exs : xs = S.map List.reverse := by
    rw [hss] at h1
    have h3 : S.map strOf = (S.map List.reverse).map txt := by rw [List.map_map]; rfl
    rw [h3] at h1
    exact (List.map_inj_right (fun a b e => txt_inj e)).1 h1
  have ees : es = u.reverse := by
    rw [he, strOf_txt] at h2; exact txt_inj h2
  subst exs ees
  exact ⟨fun x => (hX x).trans (tin_begs hT hu x), rdc_go (hT.rd u hu)⟩
/-- words of letters, all of them -/
theorem words_txt : ∀ {ss : List ByteArray}, ss.all wordB = true → ∃ xs : List (List (Fin 4)), ss = xs.map txt ∧ ∀ x ∈ xs, x.length ≤ 24
  | [], _ => ⟨[], rfl, by simp⟩
  | s :: ss, h => by
    rw [List.all_cons, Bool.and_eq_true] at h
    obtain ⟨x, e, hx⟩ := word_txt h.1
    obtain ⟨xs, e', hxs⟩ := words_txt h.2
    exact ⟨x :: xs, by rw [List.map_cons, ← e, ← e'], fun y hy => by
      rcases List.mem_cons.1 hy with h' | h'
      · rw [h']; exact hx
      · exact hxs y h'⟩

/-! ### products of reduced words -/
def mulW (u v : List (Fin 4)) : List (Fin 4) := goW u v.reverse
theorem mulW_nil (u : List (Fin 4)) : mulW u [] = u := rfl
theorem mulW_cons (u : List (Fin 4)) (c : Fin 4) (v : List (Fin 4)) : mulW u (c :: v) = stp (mulW u v) c := by unfold mulW; rw [List.reverse_cons, goW_snoc]
theorem mulW_rdc {u : List (Fin 4)} (v : List (Fin 4)) (h : Rdc u) : Rdc (mulW u v) := goW_rdc h
theorem nil_mulW {v : List (Fin 4)} (h : Rdc v) : mulW [] v = v := rdc_go h
theorem mulW_stp {u v : List (Fin 4)} (hu : Rdc u) (c : Fin 4) : mulW u (stp v c) = stp (mulW u v) c := by
  rcases stp_cases (u := v) (c := c) with e | ⟨d, x, e1, e2, e3⟩
  · rw [e, mulW_cons]
  · rw [e3, e1, e2, mulW_cons, stp_back (mulW_rdc x hu)]
theorem mulW_go {u : List (Fin 4)} (hu : Rdc u) (v ws : List (Fin 4)) : mulW u (goW v ws) = goW (mulW u v) ws := by
  induction ws generalizing v with
  | nil => rfl
  | cons c ws ih =>
    show mulW u (goW (stp v c) ws) = goW (stp (mulW u v) c) ws
    rw [ih, mulW_stp hu]
theorem mulW_assoc {u : List (Fin 4)} (hu : Rdc u) (v x : List (Fin 4)) : mulW u (mulW v x) = mulW (mulW u v) x := mulW_go hu v x.reverse
def invW (u : List (Fin 4)) : List (Fin 4) := (u.map ivL).reverse
theorem invW_invW (u : List (Fin 4)) : invW (invW u) = u := by
  unfold invW
  rw [List.map_reverse, List.reverse_reverse, List.map_map]
  have : (ivL ∘ ivL) = id := by funext c; exact ivL_ivL c
  rw [this, List.map_id]
theorem invW_length (u : List (Fin 4)) : (invW u).length = u.length := by simp [invW]
theorem invW_cons (c : Fin 4) (u : List (Fin 4)) : invW (c :: u) = invW u ++ [ivL c] := by simp [invW]
theorem rdc_app : ∀ {u : List (Fin 4)} {c : Fin 4}, Rdc u → (∀ d ∈ u.getLast?, d ≠ ivL c) → Rdc (u ++ [c])
  | [], c, _, _ => ⟨fun d hd => (by cases hd), trivial⟩
  | [d], c, _, h => ⟨fun x hx => by simp at hx; subst hx; exact h d rfl, ⟨fun x hx => (by cases hx), trivial⟩⟩
  | d :: d' :: u, c, hr, h => ⟨fun x hx => hr.1 x (by simpa using hx), rdc_app (u := d' :: u) hr.2 (fun x hx => h x (by simpa using hx))⟩
theorem invW_rdc : ∀ {u : List (Fin 4)}, Rdc u → Rdc (invW u)
  | [], _ => trivial
  | c :: u, h => by
    rw [invW_cons]
    refine rdc_app (invW_rdc h.2) fun d hd => ?_
    unfold invW at hd
    rw [List.getLast?_reverse, List.head?_map] at hd
    obtain ⟨x, hx, rfl⟩ := Option.map_eq_some_iff.1 (Option.mem_def.1 hd)
    intro e
    have := h.1 x (Option.mem_def.2 hx)
    exact this (by rw [e, ivL_ivL])
/-- the inverse, behind -/
theorem mul_inv {u : List (Fin 4)} (h : Rdc u) : mulW u (invW u) = [] := by
  have key : ∀ (v : List (Fin 4)), Rdc v → goW v (v.map ivL) = [] := by
    intro v
    induction v with
    | nil => intro _; rfl
    | cons c v ih =>
      intro hv
      show goW (stp (c :: v) (ivL c)) (v.map ivL) = []
      rw [stp_cons, if_pos rfl]; exact ih hv.2
  unfold mulW invW
  rw [List.reverse_reverse]
  exact key u h
theorem inv_mul {u : List (Fin 4)} (h : Rdc u) : mulW (invW u) u = [] := by
  have := mul_inv (invW_rdc h)
  rwa [invW_invW] at this
theorem inv_mul_cancel {u v : List (Fin 4)} (hu : Rdc u) (hv : Rdc v) : mulW (invW u) (mulW u v) = v := by rw [mulW_assoc (invW_rdc hu), inv_mul hu, nil_mulW hv]
theorem mul_inv_cancel {u v : List (Fin 4)} (hu : Rdc u) (hv : Rdc v) : mulW u (mulW (invW u) v) = v := by rw [mulW_assoc hu, mul_inv hu, nil_mulW hv]
end

end Go.Proofs.YtlcjgppclclkoaaDoor
