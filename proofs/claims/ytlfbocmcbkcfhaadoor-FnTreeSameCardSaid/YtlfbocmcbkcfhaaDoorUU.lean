/-
  Pw.
-/
import Derived.Test.YtlfbocmcbkcfhaaDoorUF
import Derived.Test.YtlfbocmcbkcfhaaDoorUR
import Derived.Test.YtlfbocmcbkcfhaaDoorUT
namespace Go.Proofs.YtlfbocmcbkcfhaaDoor
set_option maxRecDepth 100000
set_option linter.unusedVariables false
set_option linter.unusedSimpArgs false
set_option linter.unusedSectionVars false

/-! A walk through a tree, as a word: it comes back, its beginnings are the tree, it has two letters for each edge; inverse words. -/
section
open Go.RowKit

theorem goW_nil (u : List (Fin 4)) : goW u [] = u := rfl
theorem goW_cons (u : List (Fin 4)) (c : Fin 4) (w : List (Fin 4)) : goW u (c :: w) = goW (stp u c) w := rfl
theorem wk_flat {u : List (Fin 4)} {g : Fin 4 → List (Fin 4)} (hg : ∀ c, goW u (g c) = u) : ∀ L : List (Fin 4), goW u (L.flatMap g) = u
  | [] => rfl
  | c :: L => by rw [List.flatMap_cons, goW_app, hg c, wk_flat hg L]
def segT (S : List (List (Fin 4))) (k : Nat) (u : List (Fin 4)) (c : Fin 4) : List (Fin 4) := if kidB S u c = true then c :: (preT S k (c :: u) ++ [ivL c]) else []
theorem preT_seg (S : List (List (Fin 4))) (k : Nat) (u : List (Fin 4)) : preT S (k + 1) u = lets.flatMap (segT S k u) := rfl
mutual
theorem wk_back {S : List (List (Fin 4))} : ∀ (k : Nat) (u : List (Fin 4)), Rdc u → goW u (preT S k u) = u
  | 0, _, _ => rfl
  | k + 1, u, h => by rw [preT_seg]; exact wk_flat (fun c => seg_back k u c h) lets
theorem seg_back {S : List (List (Fin 4))} : ∀ (k : Nat) (u : List (Fin 4)) (c : Fin 4), Rdc u → goW u (segT S k u c) = u
  | k, u, c, h => by
    unfold segT
    by_cases hk : kidB S u c = true
    · rw [if_pos hk, goW_cons, (kid_iff.1 hk).1, goW_app, wk_back k (c :: u) (by rw [← (kid_iff.1 hk).1]; exact stp_rdc h)]
      show stp (c :: u) (ivL c) = u
      rw [← (kid_iff.1 hk).1, stp_back h]
    · rw [if_neg hk]; rfl
end
/-- the beginnings lie in the tree -/
theorem wk_flat_in {S : List (List (Fin 4))} {u : List (Fin 4)} (hu : u ∈ S) {g : Fin 4 → List (Fin 4)} (hg : ∀ c, goW u (g c) = u) (hin : ∀ c t, goW u ((g c).take t) ∈ S) : ∀ (L : List (Fin 4)) (t : Nat), goW u ((L.flatMap g).take t) ∈ S
  | [], t => by simpa [goW] using hu
  | c :: L, t => by
    rw [List.flatMap_cons, List.take_append, goW_app]
    rcases Nat.lt_or_ge t (g c).length with h | h
    · rw [show t - (g c).length = 0 by omega, List.take_zero, goW_nil]; exact hin c t
    · rw [List.take_of_length_le h, hg c]; exact wk_flat_in hu hg hin L _
theorem wk_in {S : List (List (Fin 4))} (T : Tre S) : ∀ (k : Nat) (u : List (Fin 4)), u ∈ S → ∀ t, goW u ((preT S k u).take t) ∈ S
  | 0, u, hu, t => by simpa [preT, goW] using hu
  | k + 1, u, hu, t => by
    rw [preT_seg]
    refine wk_flat_in hu (fun c => seg_back k u c (T.rd u hu)) (fun c t => ?_) lets t
    unfold segT
    by_cases hk : kidB S u c = true
    · rw [if_pos hk]
      have hcu := (kid_iff.1 hk).2
      cases t with
      | zero => simpa [goW] using hu
      | succ t =>
        rw [List.take_succ_cons, goW_cons, (kid_iff.1 hk).1, List.take_append, goW_app]
        rcases Nat.lt_or_ge t (preT S k (c :: u)).length with h | h
        · rw [show t - (preT S k (c :: u)).length = 0 by omega, List.take_zero, goW_nil]; exact wk_in T k (c :: u) hcu t
        · rw [List.take_of_length_le h, wk_back k (c :: u) (T.rd _ hcu)]
          cases hd : t - (preT S k (c :: u)).length with
          | zero => rw [List.take_zero, goW_nil]; exact hcu
          | succ d =>
            rw [List.take_succ_cons, List.take_nil]
            show stp (c :: u) (ivL c) ∈ S
            rw [← (kid_iff.1 hk).1, stp_back (T.rd u hu)]; exact hu
    · rw [if_neg hk]; simpa [goW] using hu
/-- every node is met -/
theorem wk_all {S : List (List (Fin 4))} (T : Tre S) : ∀ (k : Nat) (a u : List (Fin 4)), u ∈ S → a.reverse ++ u ∈ S → a.length ≤ k → ∃ t, t ≤ (preT S k u).length ∧ goW u ((preT S k u).take t) = a.reverse ++ u
  | k, [], u, _, _, _ => ⟨0, Nat.zero_le _, by simp [goW]⟩
  | 0, c :: a, _, _, _, h => by simp at h
  | k + 1, c :: a, u, hu, hx, h => by
    have hx' : a.reverse ++ (c :: u) ∈ S := by simpa [List.append_assoc] using hx
    have hcu : c :: u ∈ S := T.suf _ hx'
    have hk : kidB S u c = true := kid_iff.2 ⟨rdc_cons (T.rd _ hcu), hcu⟩
    obtain ⟨t, ht, e⟩ := wk_all T k a (c :: u) hcu hx' (by simpa using h)
    obtain ⟨A, B, hAB⟩ := List.append_of_mem (lets_mem c)
    have hL : preT S (k + 1) u = A.flatMap (segT S k u) ++ (segT S k u c ++ B.flatMap (segT S k u)) := by
      rw [preT_seg, hAB, List.flatMap_append, List.flatMap_cons]
    have hsg : segT S k u c = c :: (preT S k (c :: u) ++ [ivL c]) := by unfold segT; rw [if_pos hk]
    refine ⟨(A.flatMap (segT S k u)).length + (t + 1), ?_, ?_⟩
    · rw [hL, hsg]; simp only [List.length_append, List.length_cons, List.length_nil]; omega
    · rw [hL, List.take_length_add_append, goW_app, wk_flat (fun d => seg_back k u d (T.rd u hu)) A, hsg, List.cons_append, List.take_succ_cons, goW_cons, (kid_iff.1 hk).1, List.append_assoc, List.take_append_of_le_length ht, e]
      simp [List.append_assoc]
/-- a word through the whole tree and on to its end -/
theorem walk_begs {S : List (List (Fin 4))} {u : List (Fin 4)} (h : Tin S) (hu : u ∈ S) (x : List (Fin 4)) : Begs [] [preT S S.length [] ++ u.reverse] x ↔ x ∈ S := by
  have T := h.tre
  constructor
  · rintro ⟨ws, hws, t, _, rfl⟩
    rw [List.mem_singleton.1 hws, List.take_append, goW_app]
    rcases Nat.lt_or_ge t (preT S S.length []).length with h1 | h1
    · rw [show t - (preT S S.length []).length = 0 by omega, List.take_zero, goW_nil]; exact wk_in T _ _ h.nil t
    · rw [List.take_of_length_le h1, wk_back _ _ rdc_nil]
      exact (tin_begs h hu _).1 ⟨u.reverse, List.mem_append_right _ (List.mem_singleton.2 rfl), _, Nat.min_le_left _ (t - (preT S S.length []).length), by
        rw [← List.take_take, List.take_of_length_le (l := u.reverse.take _) (i := u.reverse.length) (by rw [List.length_take]; omega)]⟩
  · intro hx
    obtain ⟨t, ht, e⟩ := wk_all T S.length x.reverse [] h.nil (by simpa using hx) (by rw [List.length_reverse]; exact Nat.le_of_lt (T.len hx))
    refine ⟨_, List.mem_singleton.2 rfl, t, by rw [List.length_append]; omega, ?_⟩
    rw [List.take_append_of_le_length ht, e]; simp
theorem walk_end {S : List (List (Fin 4))} {u : List (Fin 4)} (hu : Rdc u) : redS (preT S S.length [] ++ u.reverse) = u := by
  unfold redS
  rw [goW_app, wk_back _ _ rdc_nil]; exact rdc_go hu
/-- the word of a tree has the tree -/
theorem word_law {zs : List ByteArray} {s t : ByteArray} {R : TR} (h : TreeWordOk zs s t true) (hk : OfOk t R) : R.isSome = true ∧ resL R = zs ∧ resE R = s := by
  rcases h with ⟨_, S, u, hT, hl, rfl⟩ | ⟨hb, _⟩
  · obtain ⟨rfl, rfl, hu, hS⟩ := hT
    have hr := hS.rd u hu
    have e : txt (preT S S.length []) ++ strOf u = txt (preT S S.length [] ++ u.reverse) := by rw [strOf_txt, txt_app]
    rw [e] at hk
    have hw : wordB (txt (preT S S.length [] ++ u.reverse)) = true := txt_word (by rw [List.length_append, List.length_reverse]; rw [strOf_size] at hl; exact hl)
    rcases hk with ⟨hn, _⟩ | ⟨ws, S', e0, _, ho, hX, rfl⟩
    · rw [hw] at hn; cases hn
    · have := txt_inj e0
      subst this
      have hE : S' = S := ord_eq ho hS.ord (fun x => (hX x).trans (walk_begs hS hu x))
      subst hE
      exact ⟨rfl, rfl, by show strOf (redS _) = _; rw [walk_end hr]⟩
  · cases hb
theorem word_size {zs : List ByteArray} {s t : ByteArray} (h : TreeWordOk zs s t true) : t.size ≤ 1048576 := by
  rcases h with ⟨_, S, u, hT, hl, rfl⟩ | ⟨hb, _⟩
  · have h1 : (txt (preT S S.length [])).size = (preT S S.length []).length := by unfold txt; simp [ByteArray.size]
    rw [ByteArray.size_append, h1]; omega
  · cases hb
theorem implReduced_any (s : ByteArray) (hs : s.size ≤ 1048576) (w : World) : Calls Tryd.prog 22 #[.string s] w fun e w' => ∃ (r : ByteArray) (b : Bool), e = .returned (.tuple #[.string r, .bool b]) ∧ Below w.heap.size w w' := by
  cases hw : wordB s with
  | false => exact (implReduced_no s hs hw w).mono fun e w' ⟨h1, h2⟩ => ⟨_, _, h1, h2⟩
  | true =>
    obtain ⟨ws, rfl, hl⟩ := word_txt hw
    exact (implReduced_yes ws hl w).mono fun e w' ⟨h1, h2⟩ => ⟨_, _, h1, h2⟩
/-- the walk: two letters for each edge, and it comes back -/
theorem walk_law {zs : List ByteArray} {s t : ByteArray} (h : TreeWalkOk zs s t true) : ∃ ws, t = txt ws ∧ (ws.length : Int) = 2 * ((zs.length : Int) - 1) ∧ redS ws = [] ∧ ws.length ≤ 118 := by
  rcases h with ⟨_, S, u, hT, rfl⟩ | ⟨hb, _⟩
  · obtain ⟨rfl, rfl, hu, hS⟩ := hT
    have h1 := preT_len hS.tre S.length [] hS.nil (by simp)
    have h2 := (pre_perm hS.tre (Nat.le_refl S.length)).length_eq
    have h3 := hS.len
    exact ⟨_, rfl, by rw [List.length_map]; omega, wk_back _ _ rdc_nil, by omega⟩
  · cases hb
end

end Go.Proofs.YtlfbocmcbkcfhaaDoor
