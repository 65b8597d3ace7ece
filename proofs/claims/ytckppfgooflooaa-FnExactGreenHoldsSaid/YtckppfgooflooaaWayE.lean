/-
  The chart of some ways: what it is, and that a chart's own ways lead back to it; no program.
-/
import Derived.Test.YtckppfgooflooaaWayD
namespace Go.Proofs.Ytckppfgooflooaa
set_option maxRecDepth 100000

def upI (T : Nat → Int) (y z : Int) (j : Nat) : Int := if (j : Int) = y then z else T j
/-- each of a list is a point, none met before -/
def okL (n m : Nat) : List Int → Bool
  | [] => true
  | z :: L => decide (0 ≤ z ∧ z < n ∧ m.testBit z.toNat = false) && okL n (m ||| 1 <<< z.toNat) L
def okSS (n m : Nat) : List (List Int) → Bool
  | [] => true
  | L :: Ls => decide (L ≠ []) && okL n m L && okSS n (orL m L) Ls
/-- each point of a list leads to the next one -/
def lnk (T : Nat → Int) : List Int → Nat → Int
  | [] => T
  | [_] => T
  | y :: z :: L => lnk (upI T y z) (z :: L)
def lastI (L : List Int) : Int := L.getLast?.getD 0
def headI (L : List Int) : Int := L.head?.getD 0
def cls (T : Nat → Int) (L : List Int) : Nat → Int := upI (lnk T L) (lastI L) (headI L)
/-- the first c lists are chains, the others cycles -/
def lnSS : Nat → (Nat → Int) → List (List Int) → Nat → Int
  | _, T, [] => T
  | 0, T, L :: Ls => lnSS 0 (cls T L) Ls
  | c + 1, T, L :: Ls => lnSS c (lnk T L) Ls
def wcB (n : Int) (Cs Ys : List (List Int)) : Bool := inB n 1 6 && okSS n.toNat 0 (Cs ++ Ys) && decide (orSS 0 (Cs ++ Ys) = 2 ^ n.toNat - 1)
def wcL (n : Int) (Cs Ys : List (List Int)) : List Int := if wcB n Cs Ys = true then LT n.toNat (lnSS Cs.length (fun _ => -1) (Cs ++ Ys)) else []

theorem okL_snoc (n : Nat) (z : Int) : ∀ (L : List Int) (m : Nat), okL n m (L ++ [z]) = (okL n m L && decide (0 ≤ z ∧ z < n ∧ (orL m L).testBit z.toNat = false))
  | [], m => by simp only [List.nil_append, okL, orL, List.foldl_nil, Bool.and_true, Bool.true_and]; rfl
  | y :: L, m => by simp only [List.cons_append, okL, okL_snoc n z L, Bool.and_assoc]; rfl
theorem okSS_snoc (n : Nat) (M : List Int) : ∀ (Ls : List (List Int)) (m : Nat), okSS n m (Ls ++ [M]) = (okSS n m Ls && (decide (M ≠ []) && okL n (orSS m Ls) M))
  | [], m => by simp [okSS, orSS]
  | L :: Ls, m => by simp only [List.cons_append, okSS, okSS_snoc n M Ls, Bool.and_assoc]; rfl
theorem lnk_snoc (z : Int) : ∀ (L : List Int) (T : Nat → Int), L ≠ [] → lnk T (L ++ [z]) = upI (lnk T L) (lastI L) z
  | [], T, h => absurd rfl h
  | [y], T, _ => by simp [lnk, lastI]
  | x :: y :: L, T, _ => by
    have ih := lnk_snoc z (y :: L) (upI T x y) (by simp)
    show lnk (upI T x y) ((y :: L) ++ [z]) = _
    rw [ih]
    have : lastI (x :: y :: L) = lastI (y :: L) := by simp [lastI]
    rw [this]; rfl
theorem lnSS_snoc (M : List Int) : ∀ (Ls : List (List Int)) (c : Nat) (T : Nat → Int), lnSS c T (Ls ++ [M]) = if Ls.length < c then lnk (lnSS c T Ls) M else cls (lnSS c T Ls) M
  | [], 0, T => by simp [lnSS]
  | [], c + 1, T => by simp [lnSS]
  | L :: Ls, 0, T => by simp only [List.cons_append, lnSS]; rw [lnSS_snoc M Ls 0]; simp
  | L :: Ls, c + 1, T => by simp only [List.cons_append, lnSS]; rw [lnSS_snoc M Ls c]; simp [Nat.add_lt_add_iff_right]
theorem okL_of (n : Nat) : ∀ (L : List Int) (m : Nat), (∀ z ∈ L, 0 ≤ z ∧ z < n) → (∀ j, (m.testBit j).toNat + L.count (j : Int) ≤ 1) → okL n m L = true
  | [], m, _, _ => rfl
  | z :: L, m, h, hc => by
    have hz := h z List.mem_cons_self
    obtain ⟨y, rfl⟩ := Int.eq_ofNat_of_zero_le hz.1
    have hy := hc y
    simp only [List.count_cons_self] at hy
    have hb : m.testBit y = false := by
      cases e : m.testBit y with
      | false => rfl
      | true => rw [e] at hy; exact absurd hy (by show ¬ (1 + _ ≤ 1); omega)
    unfold okL
    rw [decide_eq_true ⟨hz.1, hz.2, by rw [Int.toNat_natCast]; exact hb⟩, Bool.true_and]
    refine okL_of n L _ (fun x hx => h x (List.mem_cons_of_mem _ hx)) (fun j => ?_)
    have hj := hc j
    rw [Int.toNat_natCast, Nat.testBit_or, Nat.one_shiftLeft, Nat.testBit_two_pow]
    simp only [List.count_cons, beq_iff_eq] at hj
    by_cases e : y = j
    · subst e
      simp at hj ⊢; omega
    · rw [if_neg (by omega)] at hj
      simpa [e] using hj
theorem okSS_of (n : Nat) : ∀ (Ls : List (List Int)) (m : Nat), (∀ L ∈ Ls, L ≠ [] ∧ ∀ z ∈ L, 0 ≤ z ∧ z < n) → (∀ j : Nat, (m.testBit j).toNat + occ Ls (j : Int) ≤ 1) → okSS n m Ls = true
  | [], m, _, _ => rfl
  | L :: Ls, m, h, hc => by
    have hL := h L List.mem_cons_self
    unfold okSS
    rw [decide_eq_true hL.1, okL_of n L m hL.2 (fun j => by have := hc j; simp only [occ] at this; omega)]
    simp only [Bool.true_and]
    refine okSS_of n Ls _ (fun M hM => h M (List.mem_cons_of_mem _ hM)) (fun j => ?_)
    have hj := hc j
    simp only [occ] at hj
    have hb := orL_bit (j := j) L m (fun z hz => (hL.2 z hz).1)
    by_cases e : (orL m L).testBit j = true
    · rcases hb.1 e with h1 | h1
      · rw [h1] at hj; rw [e]; simp at hj ⊢; omega
      · have := List.count_pos_iff.2 h1; rw [e]; simp; omega
    · have e' : (orL m L).testBit j = false := by simpa using e
      rw [e']; simp; omega

section
variable {n : Nat} {F T : Nat → Int} {s : Nat}
/-- each in a list leads to the next one -/
def Adj (F : Nat → Int) : List Int → Prop
  | [] => True
  | [_] => True
  | y :: z :: L => 0 ≤ y ∧ F y.toNat = z ∧ Adj F (z :: L)
theorem upI_good {y z : Int} (h0 : 0 ≤ y) (h : F y.toNat = z) (hT : ∀ j : Nat, T j = F j ∨ T j = -1) : ∀ j : Nat, (upI T y z j = F j ∨ upI T y z j = -1) ∧ (T j = F j → upI T y z j = F j) ∧ ((j : Int) = y → upI T y z j = F j) := fun j => by
  unfold upI
  by_cases e : (j : Int) = y
  · rw [if_pos e]
    have : y.toNat = j := by omega
    rw [this] at h
    exact ⟨.inl h.symm, fun _ => h.symm, fun _ => h.symm⟩
  · rw [if_neg e]; exact ⟨hT j, fun h => h, fun h => absurd h e⟩
theorem lnk_good : ∀ (L : List Int) (T : Nat → Int), Adj F L → (∀ j : Nat, T j = F j ∨ T j = -1) → ∀ j : Nat, (lnk T L j = F j ∨ lnk T L j = -1) ∧ (T j = F j → lnk T L j = F j) ∧ ((j : Int) ∈ L → (j : Int) ≠ lastI L → lnk T L j = F j)
  | [], T, _, hT, j => ⟨hT j, fun h => h, fun h => by simp at h⟩
  | [y], T, _, hT, j => ⟨hT j, fun h => h, fun h hne => by simp [lastI] at h hne; exact absurd h hne⟩
  | y :: z :: L, T, ha, hT, j => by
    have hu := upI_good ha.1 ha.2.1 hT
    have ih := lnk_good (z :: L) (upI T y z) ha.2.2 (fun j => (hu j).1) j
    have hl : lastI (y :: z :: L) = lastI (z :: L) := by simp [lastI]
    refine ⟨ih.1, fun h => ih.2.1 ((hu j).2.1 h), fun hm hne => ?_⟩
    rw [hl] at hne
    rcases List.mem_cons.1 hm with e | hm
    · exact ih.2.1 ((hu j).2.2 e)
    · exact ih.2.2 hm hne
theorem adj_LT : ∀ m, 0 ≤ itF F s m → Adj F (LT (m + 1) (itF F s)) := by
  have gen : ∀ d a, 0 ≤ itF F s (a + d) → Adj F ((List.range' a (d + 1)).map (itF F s)) := fun d => by
    induction d with
    | zero => intro a _; simp [List.range', Adj]
    | succ d ih =>
      intro a h
      rw [List.range'_succ, List.map_cons]
      have h1 : 0 ≤ itF F s a := itF_down a (d + 1) h
      have ih' := ih (a + 1) (by rw [show a + 1 + d = a + (d + 1) by omega]; exact h)
      rw [List.range'_succ, List.map_cons] at ih' ⊢
      exact ⟨h1, by rw [itF_succ, if_pos h1], ih'⟩
  intro m h
  have := gen m 0 (by rw [Nat.zero_add]; exact h)
  unfold LT
  rw [List.range_eq_range']; exact this
theorem last_LT (m : Nat) : lastI (LT (m + 1) T) = T m := by rw [LT_succ]; simp [lastI]
theorem head_LT (m : Nat) : headI (LT (m + 1) T) = T 0 := by unfold LT headI; rw [List.range_succ_eq_map]; simp
theorem chain_end (hF : CH n F) (hs : s < n) (hn : NR n F s) : Adj F (wayL F n s) ∧ 0 ≤ lastI (wayL F n s) ∧ F (lastI (wayL F n s)).toNat = -1 := by
  obtain ⟨e, h1, h2, h3, h4, h5⟩ := way_spec hF hs
  have h6 : itF F s (e + 1) = -1 := h5.resolve_right (fun h => hn.noCyc hF hs ⟨e + 1, by omega, h⟩)
  rw [h1, last_LT]
  rw [itF_succ, if_pos h3] at h6
  exact ⟨adj_LT e h3, h3, h6⟩
theorem cycle_end (hF : CH n F) (hs : s < n) (hc : Cyc F s) : Adj F (wayL F n s) ∧ 0 ≤ lastI (wayL F n s) ∧ F (lastI (wayL F n s)).toNat = headI (wayL F n s) := by
  obtain ⟨e, h1, h2, h3, h4, h5⟩ := way_spec hF hs
  have h6 : itF F s (e + 1) = (s : Int) := h5.resolve_left (fun h => by have := hc.pos (e + 1); omega)
  rw [h1, last_LT, head_LT]
  rw [itF_succ, if_pos h3] at h6
  exact ⟨adj_LT e h3, h3, h6⟩
variable {m q : Nat}
theorem chL_end (hF : CH n F) (hm : RangeM n F m) : ∀ b, b ≤ n → ∀ L ∈ chL F n m b, L ≠ [] ∧ Adj F L ∧ 0 ≤ lastI L ∧ F (lastI L).toNat = -1
  | 0, _, L, hL => by cases hL
  | b + 1, hb, L, hL => by
    unfold chL at hL
    split at hL
    · exact chL_end hF hm b (by omega) L hL
    · rename_i h
      rcases List.mem_append.1 hL with h' | h'
      · exact chL_end hF hm b (by omega) L h'
      · rw [List.mem_singleton.1 h']
        exact ⟨fun e => by have := (way_len hF (show b < n by omega)).1; rw [e] at this; simp at this, chain_end hF (by omega) ((hm b (by omega)).1 (by simpa using h))⟩
theorem cyL_end (hF : CH n F) (hq : ChainM n F q) : ∀ b, b ≤ n → ∀ L ∈ cyL F n q b, L ≠ [] ∧ Adj F L ∧ 0 ≤ lastI L ∧ F (lastI L).toNat = headI L
  | 0, _, L, hL => by cases hL
  | b + 1, hb, L, hL => by
    unfold cyL at hL
    split at hL
    · exact cyL_end hF hq b (by omega) L hL
    · rename_i h
      rcases List.mem_append.1 hL with h' | h'
      · exact cyL_end hF hq b (by omega) L h'
      · rw [List.mem_singleton.1 h']
        exact ⟨fun e => by have := (way_len hF (show b < n by omega)).1; rw [e] at this; simp at this, cycle_end hF (by omega) (cyL_new hF hq (by omega) h).1⟩
theorem lnSS_good : ∀ (Cs Ys : List (List Int)) (T : Nat → Int), (∀ L ∈ Cs, L ≠ [] ∧ Adj F L ∧ 0 ≤ lastI L ∧ F (lastI L).toNat = -1) → (∀ L ∈ Ys, L ≠ [] ∧ Adj F L ∧ 0 ≤ lastI L ∧ F (lastI L).toNat = headI L) → (∀ j : Nat, T j = F j ∨ T j = -1) →
    ∀ j : Nat, (T j = F j → lnSS Cs.length T (Cs ++ Ys) j = F j) ∧ ((∃ L ∈ Cs ++ Ys, (j : Int) ∈ L) → lnSS Cs.length T (Cs ++ Ys) j = F j)
  | [], [], T, _, _, hT, j => ⟨fun h => h, fun ⟨L, h, _⟩ => by simp at h⟩
  | [], L :: Ys, T, hC, hY, hT, j => by
    obtain ⟨h1, h2, h3, h4⟩ := hY L List.mem_cons_self
    have hg := lnk_good L T h2 hT
    have hu := upI_good (T := lnk T L) h3 h4 (fun j => (hg j).1)
    have ih := lnSS_good [] Ys (cls T L) (fun _ h => by cases h) (fun M hM => hY M (List.mem_cons_of_mem _ hM)) (fun j => (hu j).1) j
    refine ⟨fun h => ih.1 ((hu j).2.1 ((hg j).2.1 h)), fun ⟨M, hM, hj⟩ => ?_⟩
    rcases List.mem_cons.1 hM with rfl | hM
    · refine ih.1 ?_
      by_cases e : (j : Int) = lastI M
      · exact (hu j).2.2 e
      · exact (hu j).2.1 ((hg j).2.2 hj e)
    · exact ih.2 ⟨M, hM, hj⟩
  | L :: Cs, Ys, T, hC, hY, hT, j => by
    obtain ⟨h1, h2, h3, h4⟩ := hC L List.mem_cons_self
    have hg := lnk_good L T h2 hT
    have ih := lnSS_good Cs Ys (lnk T L) (fun M hM => hC M (List.mem_cons_of_mem _ hM)) hY (fun j => (hg j).1) j
    refine ⟨fun h => ih.1 ((hg j).2.1 h), fun ⟨M, hM, hj⟩ => ?_⟩
    rcases List.mem_cons.1 hM with rfl | hM
    · refine ih.1 ?_
      by_cases e : (j : Int) = lastI M
      · have he : (lastI M).toNat = j := by omega
        rw [he] at h4
        rcases (hg j).1 with h | h
        · exact h
        · rw [h, h4]
      · exact (hg j).2.2 hj e
    · exact ih.2 ⟨M, hM, hj⟩
theorem mask_full {n m : Nat} (h : ∀ j, m.testBit j = decide (j < n)) : m = 2 ^ n - 1 := by
  apply Nat.eq_of_testBit_eq
  intro j
  rw [h, Nat.testBit_two_pow_sub_one]
/-- a chart's own ways make it -/
theorem ways_back (hF : CH n F) (hm : RangeM n F m) : wcB (n : Int) (chL F n m n) (cyL F n (orSS 0 (chL F n m n)) n) = true ∧ wcL (n : Int) (chL F n m n) (cyL F n (orSS 0 (chL F n m n)) n) = LT n F := by
  have hC := chL_end hF hm n (Nat.le_refl _)
  have hY := cyL_end hF (chL_mask hF hm) n (Nat.le_refl _)
  have hent : ∀ L ∈ chL F n m n ++ cyL F n (orSS 0 (chL F n m n)) n, ∀ z ∈ L, 0 ≤ z ∧ z < n := fun L hL => by
    rcases List.mem_append.1 hL with h | h
    · exact chL_ent hF n (Nat.le_refl _) L h
    · exact cyL_ent hF n (Nat.le_refl _) L h
  have honce := fun (j : Nat) (hj : j < n) => ways_once hF hm hj
  have hex : ∀ j : Nat, j < n → ∃ L ∈ chL F n m n ++ cyL F n (orSS 0 (chL F n m n)) n, (j : Int) ∈ L := fun j hj => by
    apply Classical.byContradiction
    intro hno
    have h0 := mem_occ (Ls := chL F n m n ++ cyL F n (orSS 0 (chL F n m n)) n) (z := (j : Int)) (fun L hL hz => hno ⟨L, hL, hz⟩)
    have := honce j hj; omega
  have h1 := hF.one
  have h6 := hF.six
  have hB : wcB (n : Int) (chL F n m n) (cyL F n (orSS 0 (chL F n m n)) n) = true := by
    unfold wcB inB
    rw [Int.toNat_natCast, decide_eq_true (show (1 : Int) ≤ n ∧ (n : Int) ≤ 6 by omega), okSS_of n _ 0 (fun L hL => ⟨?_, hent L hL⟩) (fun j => ?_), decide_eq_true]
    · rfl
    · refine mask_full (fun j => ?_)
      have hb := orSS_bit (j := j) (chL F n m n ++ cyL F n (orSS 0 (chL F n m n)) n) 0 (fun L hL z hz => (hent L hL z hz).1)
      by_cases hj : j < n
      · rw [decide_eq_true hj]; exact hb.2 (.inr (hex j hj))
      · rw [decide_eq_false hj]
        cases e : (orSS 0 (chL F n m n ++ cyL F n (orSS 0 (chL F n m n)) n)).testBit j with
        | false => rfl
        | true =>
          rcases hb.1 e with h | ⟨L, hL, hz⟩
          · simp at h
          · have := hent L hL _ hz; omega
    · rcases List.mem_append.1 hL with h | h
      · exact (hC L h).1
      · exact (hY L h).1
    · rw [Nat.zero_testBit]
      by_cases hj : j < n
      · rw [honce j hj]; simp
      · rw [mem_occ (fun L hL hz => by have := hent L hL _ hz; omega)]; simp
  refine ⟨hB, ?_⟩
  unfold wcL
  rw [if_pos hB, Int.toNat_natCast]
  exact LT_congr (fun j hj => (lnSS_good _ _ _ hC hY (fun _ => .inr rfl) j).2 (hex j hj))
end
end Go.Proofs.Ytckppfgooflooaa
