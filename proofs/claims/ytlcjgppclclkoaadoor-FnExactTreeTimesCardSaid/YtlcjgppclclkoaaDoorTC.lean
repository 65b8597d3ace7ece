/-
  Tp.
-/
import Derived.Test.YtlcjgppclclkoaaDoorTA
namespace Go.Proofs.YtlcjgppclclkoaaDoor
set_option maxRecDepth 100000
set_option linter.unusedVariables false
set_option linter.unusedSimpArgs false
set_option linter.unusedSectionVars false

/-! A walk through a tree of words: the nodes in the order in which they are met; no program. -/
section
/-- does a letter lead on, to a longer word -/
def kidB (N : List (List (Fin 4))) (u : List (Fin 4)) (c : Fin 4) : Bool := decide (stp u c = c :: u) && decide (c :: u ∈ N)
theorem kid_iff {N : List (List (Fin 4))} {u : List (Fin 4)} {c : Fin 4} : kidB N u c = true ↔ stp u c = c :: u ∧ c :: u ∈ N := by unfold kidB; rw [Bool.and_eq_true, decide_eq_true_eq, decide_eq_true_eq]
def lets : List (Fin 4) := [0, 1, 2, 3]
def preF (N : List (List (Fin 4))) : Nat → List (Fin 4) → List (List (Fin 4))
  | 0, _ => []
  | k + 1, u => u :: lets.flatMap (fun c => if kidB N u c = true then preF N k (c :: u) else [])
/-- the walk's rounds: the first letters -/
def preL (N : List (List (Fin 4))) (k : Nat) (u : List (Fin 4)) (t : Nat) : List (List (Fin 4)) := (lets.take t).flatMap (fun c => if kidB N u c = true then preF N k (c :: u) else [])
theorem preL_all (N : List (List (Fin 4))) (k : Nat) (u : List (Fin 4)) : preF N (k + 1) u = u :: preL N k u 4 := rfl
theorem lets_get : ∀ c : Fin 4, lets[c.val]? = some c := by decide
theorem lets_mem : ∀ c : Fin 4, c ∈ lets := by decide
theorem preL_succ (N : List (List (Fin 4))) (k : Nat) (u : List (Fin 4)) (c : Fin 4) : preL N k u (c.val + 1) = preL N k u c.val ++ (if kidB N u c = true then preF N k (c :: u) else []) := by
  unfold preL
  rw [List.take_add_one, lets_get, List.flatMap_append]
  simp
theorem pre_suf {N : List (List (Fin 4))} : ∀ (k : Nat) (u x : List (Fin 4)), x ∈ preF N k u → ∃ p, x = p ++ u := by
  intro k
  induction k with
  | zero => intro u x h; cases h
  | succ k ih =>
    intro u x h
    unfold preF at h
    rcases List.mem_cons.1 h with e | h
    · exact ⟨[], by rw [e]; rfl⟩
    · obtain ⟨c, _, hc⟩ := List.mem_flatMap.1 h
      split at hc
      · obtain ⟨p, e⟩ := ih _ _ hc
        exact ⟨p ++ [c], by rw [e]; simp⟩
      · cases hc
theorem pre_mem {N : List (List (Fin 4))} : ∀ (k : Nat) (u x : List (Fin 4)), u ∈ N → x ∈ preF N k u → x ∈ N := by
  intro k
  induction k with
  | zero => intro u x _ h; cases h
  | succ k ih =>
    intro u x hu h
    unfold preF at h
    rcases List.mem_cons.1 h with e | h
    · rw [e]; exact hu
    · obtain ⟨c, _, hc⟩ := List.mem_flatMap.1 h
      split at hc
      · rename_i hk
        exact ih _ _ (kid_iff.1 hk).2 hc
      · cases hc
theorem suf_ne {u p q : List (Fin 4)} {c d : Fin 4} (h : p ++ (c :: u) = q ++ (d :: u)) : c = d := by
  have hl : p.length = q.length := by
    have := congrArg List.length h
    simp at this; exact this
  have := (List.append_inj h hl).2
  injection this
theorem pre_nodup {N : List (List (Fin 4))} : ∀ (k : Nat) (u : List (Fin 4)), (preF N k u).Nodup := by
  intro k
  induction k with
  | zero => intro u; exact List.nodup_nil
  | succ k ih =>
    intro u
    unfold preF
    rw [List.nodup_cons]
    constructor
    · intro h
      obtain ⟨c, _, hc⟩ := List.mem_flatMap.1 h
      split at hc
      · obtain ⟨p, e⟩ := pre_suf _ _ _ hc
        have := congrArg List.length e
        rw [List.length_append, List.length_cons] at this
        omega
      · cases hc
    · unfold List.Nodup
      rw [List.pairwise_flatMap]
      constructor
      · intro c _
        split
        · exact ih _
        · exact List.Pairwise.nil
      · refine List.Pairwise.imp ?_ (show lets.Pairwise (fun a b => a ≠ b) from by decide)
        intro a b hab x hx y hy e
        split at hx
        · split at hy
          · obtain ⟨p, e1⟩ := pre_suf _ _ _ hx
            obtain ⟨q, e2⟩ := pre_suf _ _ _ hy
            exact hab (suf_ne (by rw [← e1, ← e2, e]))
          · cases hy
        · cases hx
theorem Tre.suf {N : List (List (Fin 4))} (T : Tre N) : ∀ (p : List (Fin 4)) {u : List (Fin 4)}, p ++ u ∈ N → u ∈ N
  | [], _, h => h
  | c :: p, _, h => T.suf p (T.cl c _ h)
theorem pre_all {N : List (List (Fin 4))} (T : Tre N) : ∀ (k : Nat) (p u : List (Fin 4)), p ++ u ∈ N → p.length < k → p ++ u ∈ preF N k u := by
  intro k
  induction k with
  | zero => intro p u _ h; omega
  | succ k ih =>
    intro p u hx hl
    unfold preF
    rcases List.eq_nil_or_concat p with e | ⟨q, c, e⟩
    · subst e; exact List.mem_cons_self
    · subst e
      rw [List.concat_eq_append, List.append_assoc] at hx ⊢
      have hx' : q ++ (c :: u) ∈ N := hx
      have hcu := T.suf q hx'
      have hr := T.rd _ hcu
      have hk : kidB N u c = true := by
        refine kid_iff.2 ⟨?_, hcu⟩
        cases u with
        | nil => rfl
        | cons d v => rw [stp_cons, if_neg (hr.1 d (by simp))]
      refine List.mem_cons_of_mem _ (List.mem_flatMap.2 ⟨c, lets_mem c, ?_⟩)
      rw [if_pos hk]
      exact ih q (c :: u) hx' (by simp at hl; omega)
/-- the words of a tree are shorter than their number -/
theorem Tre.len {N : List (List (Fin 4))} (T : Tre N) {u : List (Fin 4)} (hu : u ∈ N) : u.length < N.length := by
  have key : ∀ (v : List (Fin 4)), v ∈ N → ∃ S : List (List (Fin 4)), S.Nodup ∧ S ⊆ N ∧ S.length = v.length + 1 ∧ ∀ x ∈ S, x.length ≤ v.length := by
    intro v
    induction v with
    | nil => intro h; exact ⟨[[]], by simp, by simpa using h, rfl, by simp⟩
    | cons c v ih =>
      intro h
      obtain ⟨S, h1, h2, h3, h4⟩ := ih (T.cl c v h)
      refine ⟨(c :: v) :: S, List.nodup_cons.2 ⟨fun hm => ?_, h1⟩, fun x hx => ?_, by simp [h3], fun x hx => ?_⟩
      · have := h4 _ hm; simp at this; omega
      · rcases List.mem_cons.1 hx with e | hx
        · rw [e]; exact h
        · exact h2 hx
      · rcases List.mem_cons.1 hx with e | hx
        · rw [e]; exact Nat.le_refl _
        · have := h4 x hx; simp; omega
  obtain ⟨S, h1, h2, h3, _⟩ := key u hu
  have := h1.length_le_of_subset h2
  omega
/-- a walk from the first node meets each node once -/
theorem pre_perm {N : List (List (Fin 4))} (T : Tre N) {k : Nat} (hk : N.length ≤ k) : (preF N k []).Perm N :=
  (List.perm_ext_iff_of_nodup (pre_nodup _ _) T.nd).2 fun x => ⟨pre_mem _ _ _ T.nil, fun hx => by
    have := pre_all T k x [] (by simpa using hx) (by have := T.len hx; omega)
    simpa using this⟩
end

end Go.Proofs.YtlcjgppclclkoaaDoor
