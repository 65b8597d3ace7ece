/-
  Ways of a chart: each point is in just one of them; no program.
-/
import Derived.Test.YtckppfgooflooaaWay
namespace Go.Proofs.Ytckppfgooflooaa
set_option maxRecDepth 100000

def Rch (F : Nat → Int) (s j : Nat) : Prop := ∃ k, itF F s k = (j : Int)
def Cyc (F : Nat → Int) (s : Nat) : Prop := ∃ p, 1 ≤ p ∧ itF F s p = (s : Int)
def NR (n : Nat) (F : Nat → Int) (s : Nat) : Prop := ∀ i, i < n → F i ≠ (s : Int)
section
variable {n : Nat} {F : Nat → Int} {a b c i j s : Nat}
theorem Rch.refl (F : Nat → Int) (s : Nat) : Rch F s s := ⟨0, rfl⟩
theorem it_via {k : Nat} (h : itF F a k = (b : Int)) (d : Nat) : itF F a (k + d) = itF F b d := by
  rw [it_add k d (by omega), h, Int.toNat_natCast]
theorem Rch.trans (h : Rch F a b) (h' : Rch F b c) : Rch F a c := by
  obtain ⟨k, e⟩ := h
  obtain ⟨d, e'⟩ := h'
  exact ⟨k + d, by rw [it_via e, e']⟩
theorem Rch.lt (hF : CH n F) (hs : s < n) (h : Rch F s j) : j < n := by
  obtain ⟨k, e⟩ := h
  have := (itF_en hF.en hs k).resolve_left (by omega)
  omega
theorem it_back2 (hF : CH n F) (ha : a < n) (hb : b < n) : ∀ k d, 0 ≤ itF F a k → itF F a k = itF F b (k + d) → itF F b d = (a : Int)
  | 0, d, _, e => by rw [Nat.zero_add] at e; rw [← e]; rfl
  | k + 1, d, h0, e => by
    have hd : k + 1 + d = (k + d) + 1 := by omega
    rw [hd] at e
    have a0 : 0 ≤ itF F a k := itF_down k 1 h0
    have b0 : 0 ≤ itF F b (k + d) := itF_down (k + d) 1 (by rw [← e]; exact h0)
    rw [itF_succ, itF_succ, if_pos a0, if_pos b0] at e
    rw [itF_succ, if_pos a0] at h0
    have ia := (itF_en hF.en ha k).resolve_left (by omega)
    have ib := (itF_en hF.en hb (k + d)).resolve_left (by omega)
    have := hF.inj (itF F a k).toNat (itF F b (k + d)).toNat (by omega) (by omega) (by omega) e
    exact it_back2 hF ha hb k d a0 (by omega)
theorem Rch.join (hF : CH n F) (ha : a < n) (hb : b < n) (h : Rch F a j) (h' : Rch F b j) : Rch F a b ∨ Rch F b a := by
  obtain ⟨k, e⟩ := h
  obtain ⟨d, e'⟩ := h'
  by_cases hkd : k ≤ d
  · right
    exact ⟨d - k, it_back2 hF ha hb k (d - k) (by omega) (by rw [show k + (d - k) = d by omega, e, e'])⟩
  · left
    exact ⟨k - d, it_back2 hF hb ha d (k - d) (by omega) (by rw [show d + (k - d) = k by omega, e, e'])⟩
theorem Cyc.pos (h : Cyc F s) (k : Nat) : 0 ≤ itF F s k := by
  obtain ⟨p, h1, e⟩ := h
  refine itF_down k (p * k - k) ?_
  have : k ≤ p * k := Nat.le_mul_of_pos_left k h1
  rw [show k + (p * k - k) = p * k by omega, it_mul e]; omega
theorem Cyc.back (h : Cyc F s) (hr : Rch F s j) : Rch F j s := by
  obtain ⟨p, h1, e⟩ := h
  obtain ⟨k, e'⟩ := hr
  have : k ≤ p * k := Nat.le_mul_of_pos_left k h1
  refine ⟨p * k - k, ?_⟩
  rw [← it_via e', show k + (p * k - k) = p * k by omega, it_mul e]
theorem Cyc.of (h : Cyc F s) (hr : Rch F s j) : Cyc F j := by
  obtain ⟨k, e⟩ := h.back hr
  obtain ⟨p, h1, e'⟩ := h
  obtain ⟨d, e''⟩ := hr
  exact ⟨k + (p + d), by omega, by rw [it_via e, it_via e', e'']⟩
theorem Cyc.to (hF : CH n F) (ha : a < n) (hj : j < n) (h : Cyc F j) (hr : Rch F a j) : Rch F j a := by
  obtain ⟨p, h1, e⟩ := h
  obtain ⟨k, e'⟩ := hr
  have : k ≤ p * k := Nat.le_mul_of_pos_left k h1
  exact ⟨p * k - k, it_back2 hF ha hj k (p * k - k) (by omega) (by rw [show k + (p * k - k) = p * k by omega, it_mul e, e'])⟩
theorem NR.only (hF : CH n F) (ha : a < n) (h : NR n F s) (hr : Rch F a s) : a = s := by
  obtain ⟨k, e⟩ := hr
  cases k with
  | zero => simp [itF] at e; omega
  | succ k =>
    rw [itF_succ] at e
    by_cases hc : 0 ≤ itF F a k
    · rw [if_pos hc] at e
      have := (itF_en hF.en ha k).resolve_left (by omega)
      exact absurd e (h _ (by omega))
    · rw [if_neg hc] at e; omega
theorem NR.noCyc (hF : CH n F) (hs : s < n) (h : NR n F s) : ¬ Cyc F s := by
  rintro ⟨p, h1, e⟩
  obtain ⟨q, rfl⟩ : ∃ q, p = q + 1 := ⟨p - 1, by omega⟩
  rw [itF_succ] at e
  by_cases hc : 0 ≤ itF F s q
  · rw [if_pos hc] at e
    have := (itF_en hF.en hs q).resolve_left (by omega)
    exact h _ (by omega) e
  · rw [if_neg hc] at e; omega
theorem it_turn (hF : CH n F) (hj : j < n) : ∀ k, 0 ≤ itF (trn n F) j k → itF F (itF (trn n F) j k).toNat k = (j : Int)
  | 0, _ => by show ((((j : Nat) : Int).toNat : Nat) : Int) = j; simp
  | k + 1, h0 => by
    have hT := CH_trn hF
    have a0 : 0 ≤ itF (trn n F) j k := itF_down k 1 h0
    have ia := (itF_en hT.en hj k).resolve_left (by omega)
    have ib := (itF_en hT.en hj (k + 1)).resolve_left (by omega)
    have e : trn n F (itF (trn n F) j k).toNat = (((itF (trn n F) j (k + 1)).toNat : Nat) : Int) := by
      rw [itF_succ, if_pos a0] at ib ⊢; omega
    have e' := (trn_iff hF (by omega) (by omega)).1 e
    generalize (itF (trn n F) j (k + 1)).toNat = i at e e'
    have h1 : itF F i 1 = (((itF (trn n F) j k).toNat : Nat) : Int) := by
      have e1 : itF F i 1 = F i := by
        rw [itF_succ, if_pos (show (0 : Int) ≤ itF F i 0 by simp [itF])]
        show F ((i : Int)).toNat = _
        rw [Int.toNat_natCast]
      rw [e1]; exact e'
    rw [Nat.add_comm, it_via h1]
    exact it_turn hF hj k a0
/-- each point is met from one that is not in the range, or comes back -/
theorem start_or_cyc (hF : CH n F) (hj : j < n) : (∃ s, s < n ∧ NR n F s ∧ Rch F s j) ∨ Cyc F j := by
  have hT := CH_trn hF
  by_cases hn : 0 ≤ itF (trn n F) j n
  · right
    obtain ⟨p, h1, h2, e⟩ := it_cycle hT hj hn
    have := it_turn hF hj p (by omega)
    rw [e, Int.toNat_natCast] at this
    exact ⟨p, h1, this⟩
  · left
    have : ∃ k, 0 ≤ itF (trn n F) j k ∧ ¬ 0 ≤ itF (trn n F) j (k + 1) := by
      apply Classical.byContradiction
      intro hno
      have hall : ∀ k, 0 ≤ itF (trn n F) j k := fun k => by
        induction k with
        | zero => simp [itF]
        | succ k ih =>
          apply Classical.byContradiction
          intro h
          exact hno ⟨k, ih, h⟩
      exact hn (hall n)
    obtain ⟨k, h0, h1⟩ := this
    have ia := (itF_en hT.en hj k).resolve_left (by omega)
    refine ⟨(itF (trn n F) j k).toNat, by omega, ?_, ⟨k, it_turn hF hj k h0⟩⟩
    refine (trn_none hF (by omega)).1 ?_
    rw [itF_succ, if_pos h0] at h1
    exact (hT.en _ (by omega)).resolve_right (fun h => h1 h.1)

/-! ### one way -/
theorem wEnd_spec (hF : CH n F) (hs : s < n) : ∀ d k, d = n - k → k < n → 0 ≤ itF F s k → (∀ i, 1 ≤ i → i ≤ k → itF F s i ≠ (s : Int)) →
    wEnd F s d k < n ∧ 0 ≤ itF F s (wEnd F s d k) ∧ (∀ i, 1 ≤ i → i ≤ wEnd F s d k → itF F s i ≠ (s : Int)) ∧ (itF F s (wEnd F s d k + 1) = -1 ∨ itF F s (wEnd F s d k + 1) = (s : Int))
  | 0, k, hd, hk, _, _ => by omega
  | d + 1, k, hd, hk, h0, hne => by
    unfold wEnd
    by_cases hc : 0 ≤ itF F s (k + 1) ∧ itF F s (k + 1) ≠ (s : Int)
    · rw [if_pos hc]
      have hne' : ∀ i, 1 ≤ i → i ≤ k + 1 → itF F s i ≠ (s : Int) := fun i h1 h2 => by
        by_cases e : i = k + 1
        · rw [e]; exact hc.2
        · exact hne i h1 (by omega)
      have := itF_short hF hs hc.1 hne'
      exact wEnd_spec hF hs d (k + 1) (by omega) (by omega) hc.1 hne'
    · rw [if_neg hc]
      refine ⟨hk, h0, hne, ?_⟩
      by_cases e : itF F s (k + 1) = (s : Int)
      · exact .inr e
      · rcases itF_en hF.en hs (k + 1) with h1 | h1
        · exact .inl h1
        · exact absurd ⟨h1.1, e⟩ hc
theorem way_spec (hF : CH n F) (hs : s < n) : ∃ e, wayL F n s = LT (e + 1) (itF F s) ∧ e < n ∧ 0 ≤ itF F s e ∧ (∀ i, 1 ≤ i → i ≤ e → itF F s i ≠ (s : Int)) ∧ (itF F s (e + 1) = -1 ∨ itF F s (e + 1) = (s : Int)) :=
  ⟨wEnd F s n 0, rfl, wEnd_spec hF hs n 0 (by omega) (by omega) (by simp [itF]) (fun i h1 h2 => by omega)⟩
theorem mem_LT {m : Nat} {T : Nat → Int} {z : Int} : z ∈ LT m T ↔ ∃ k, k < m ∧ T k = z := by simp [LT]
theorem it_inj (hF : CH n F) (hs : s < n) {e : Nat} (h0 : 0 ≤ itF F s e) (hne : ∀ i, 1 ≤ i → i ≤ e → itF F s i ≠ (s : Int)) {x y : Nat} (hx : x ≤ e) (hy : y ≤ e) (h : itF F s x = itF F s y) : x = y := by
  have px := itF_down x (e - x) (by rw [show x + (e - x) = e by omega]; exact h0)
  have py := itF_down y (e - y) (by rw [show y + (e - y) = e by omega]; exact h0)
  rcases Nat.lt_trichotomy x y with hlt | he | hlt
  · have := itF_back hF hs x (y - x) (by rw [show x + (y - x) = y by omega]; exact py) (by rw [show x + (y - x) = y by omega]; exact h)
    exact absurd this (hne (y - x) (by omega) (by omega))
  · exact he
  · have := itF_back hF hs y (x - y) (by rw [show y + (x - y) = x by omega]; exact px) (by rw [show y + (x - y) = x by omega]; exact h.symm)
    exact absurd this (hne (x - y) (by omega) (by omega))
theorem way_ent (hF : CH n F) (hs : s < n) : ∀ z ∈ wayL F n s, 0 ≤ z ∧ z < n := fun z hz => by
  obtain ⟨e, h1, h2, h3, h4, h5⟩ := way_spec hF hs
  rw [h1, mem_LT] at hz
  obtain ⟨k, hk, rfl⟩ := hz
  have := itF_down k (e - k) (by rw [show k + (e - k) = e by omega]; exact h3)
  exact (itF_en hF.en hs k).resolve_left (by omega)
theorem way_nodup (hF : CH n F) (hs : s < n) : (wayL F n s).Nodup := by
  obtain ⟨e, h1, h2, h3, h4, h5⟩ := way_spec hF hs
  rw [h1]; unfold LT List.Nodup
  rw [List.pairwise_map]
  refine (List.pairwise_lt_range (n := e + 1)).imp_of_mem (fun {x y} hx hy hlt he => ?_)
  have := it_inj hF hs h3 h4 (by have := List.mem_range.1 hx; omega) (by have := List.mem_range.1 hy; omega) he
  omega
/-- a start of a chain, or a point that comes back -/
theorem mem_way (hF : CH n F) (hs : s < n) (hp : NR n F s ∨ Cyc F s) : (j : Int) ∈ wayL F n s ↔ Rch F s j := by
  obtain ⟨e, h1, h2, h3, h4, h5⟩ := way_spec hF hs
  rw [h1, mem_LT]
  refine ⟨fun ⟨k, _, h⟩ => ⟨k, h⟩, fun ⟨k, h⟩ => ?_⟩
  rcases hp with hn | hc
  · have h6 : itF F s (e + 1) = -1 := h5.resolve_right (fun h => hn.noCyc hF hs ⟨e + 1, by omega, h⟩)
    refine ⟨k, ?_, h⟩
    apply Classical.byContradiction
    intro hge
    have := itF_down (s := s) (F := F) (e + 1) (k - (e + 1)) (by rw [show e + 1 + (k - (e + 1)) = k by omega]; omega)
    omega
  · have h6 : itF F s (e + 1) = (s : Int) := h5.resolve_left (fun h => by have := hc.pos (e + 1); omega)
    refine ⟨k % (e + 1), Nat.mod_lt _ (by omega), ?_⟩
    rw [← h]
    have e' := it_mul h6 (k / (e + 1))
    conv => rhs; rw [show k = (e + 1) * (k / (e + 1)) + k % (e + 1) from (Nat.div_add_mod k (e + 1)).symm]
    rw [it_via e']

/-! ### all ways -/
def orL (m : Nat) (L : List Int) : Nat := L.foldl (fun a z => a ||| 1 <<< z.toNat) m
def orSS (m : Nat) (Ls : List (List Int)) : Nat := Ls.foldl orL m
theorem orL_bit : ∀ (L : List Int) (m : Nat), (∀ z ∈ L, 0 ≤ z) → ((orL m L).testBit j = true ↔ m.testBit j = true ∨ (j : Int) ∈ L)
  | [], m, _ => by simp [orL]
  | z :: L, m, h => by
    have hz := h z List.mem_cons_self
    have ih := orL_bit L (m ||| 1 <<< z.toNat) (fun y hy => h y (List.mem_cons_of_mem _ hy))
    show (orL (m ||| 1 <<< z.toNat) L).testBit j = true ↔ _
    rw [ih, Nat.testBit_or, Nat.one_shiftLeft, Nat.testBit_two_pow, List.mem_cons, Bool.or_eq_true, decide_eq_true_eq, or_assoc]
    have : (z.toNat = j) ↔ ((j : Int) = z) := by omega
    rw [this]
theorem orSS_bit : ∀ (Ls : List (List Int)) (m : Nat), (∀ L ∈ Ls, ∀ z ∈ L, 0 ≤ z) → ((orSS m Ls).testBit j = true ↔ m.testBit j = true ∨ ∃ L ∈ Ls, (j : Int) ∈ L)
  | [], m, _ => by simp [orSS]
  | L :: Ls, m, h => by
    show (orSS (orL m L) Ls).testBit j = true ↔ _
    rw [orSS_bit Ls _ (fun M hM => h M (List.mem_cons_of_mem _ hM)), orL_bit L m (h L List.mem_cons_self), or_assoc]
    simp
theorem orL_lt : ∀ (L : List Int) (m : Nat), m < 64 → (∀ z ∈ L, 0 ≤ z ∧ z < 6) → orL m L < 64
  | [], m, hm, _ => hm
  | z :: L, m, hm, h => orL_lt L _ (mask_lt' hm (by have := h z List.mem_cons_self; omega)) (fun y hy => h y (List.mem_cons_of_mem _ hy))
theorem orSS_lt : ∀ (Ls : List (List Int)) (m : Nat), m < 64 → (∀ L ∈ Ls, ∀ z ∈ L, 0 ≤ z ∧ z < 6) → orSS m Ls < 64
  | [], m, hm, _ => hm
  | L :: Ls, m, hm, h => orSS_lt Ls _ (orL_lt L m hm (h L List.mem_cons_self)) (fun M hM => h M (List.mem_cons_of_mem _ hM))
theorem orSS_snoc (m : Nat) (Ls : List (List Int)) (L : List Int) : orSS m (Ls ++ [L]) = orL (orSS m Ls) L := by simp [orSS]
theorem orL_snoc (m : Nat) (L : List Int) (z : Int) : orL m (L ++ [z]) = orL m L ||| 1 <<< z.toNat := by simp [orL]

/-- the chains whose first points lie below k (m: the range) -/
def chL (F : Nat → Int) (n m : Nat) : Nat → List (List Int)
  | 0 => []
  | k + 1 => if m.testBit k = true then chL F n m k else chL F n m k ++ [wayL F n k]
/-- the cycles whose least points lie below k (s: what is met by chains) -/
def cyL (F : Nat → Int) (n s : Nat) : Nat → List (List Int)
  | 0 => []
  | k + 1 => if (orSS s (cyL F n s k)).testBit k = true then cyL F n s k else cyL F n s k ++ [wayL F n k]
/-- how often a number stands in lists -/
def occ : List (List Int) → Int → Nat
  | [], _ => 0
  | L :: Ls, z => L.count z + occ Ls z
theorem occ_append (Ls Ms : List (List Int)) (z : Int) : occ (Ls ++ Ms) z = occ Ls z + occ Ms z := by
  induction Ls with
  | nil => simp [occ]
  | cons L Ls ih => simp only [List.cons_append, occ, ih]; omega
theorem occ_snoc (Ls : List (List Int)) (L : List Int) (z : Int) : occ (Ls ++ [L]) z = occ Ls z + L.count z := by rw [occ_append]; simp [occ]
theorem count_in {L : List Int} (h : L.Nodup) {z : Int} (hz : z ∈ L) : L.count z = 1 := by
  have h1 := List.nodup_iff_count.1 h z
  have h2 := List.count_pos_iff.2 hz
  omega
theorem occ_mem {Ls : List (List Int)} {z : Int} (h : occ Ls z = 0) : ∀ L ∈ Ls, z ∉ L := by
  induction Ls with
  | nil => intro L hL; cases hL
  | cons M Ls ih =>
    intro L hL hz
    simp only [occ] at h
    rcases List.mem_cons.1 hL with rfl | hL
    · have := List.count_pos_iff.2 hz; omega
    · exact ih (by omega) L hL hz
theorem mem_occ {Ls : List (List Int)} {z : Int} (h : ∀ L ∈ Ls, z ∉ L) : occ Ls z = 0 := by
  induction Ls with
  | nil => rfl
  | cons M Ls ih =>
    simp only [occ]
    rw [List.count_eq_zero.2 (h M List.mem_cons_self), ih (fun L hL => h L (List.mem_cons_of_mem _ hL))]

variable {m : Nat}
theorem chL_ent (hF : CH n F) : ∀ k, k ≤ n → ∀ L ∈ chL F n m k, ∀ z ∈ L, 0 ≤ z ∧ z < n
  | 0, _, L, hL => by cases hL
  | k + 1, hk, L, hL => by
    unfold chL at hL
    split at hL
    · exact chL_ent hF k (by omega) L hL
    · rcases List.mem_append.1 hL with h | h
      · exact chL_ent hF k (by omega) L h
      · rw [List.mem_singleton.1 h]; exact way_ent hF (by omega)
theorem cyL_ent (hF : CH n F) : ∀ k, k ≤ n → ∀ L ∈ cyL F n m k, ∀ z ∈ L, 0 ≤ z ∧ z < n
  | 0, _, L, hL => by cases hL
  | k + 1, hk, L, hL => by
    unfold cyL at hL
    split at hL
    · exact cyL_ent hF k (by omega) L hL
    · rcases List.mem_append.1 hL with h | h
      · exact cyL_ent hF k (by omega) L h
      · rw [List.mem_singleton.1 h]; exact way_ent hF (by omega)
/-- the range, as a mask -/
def RangeM (n : Nat) (F : Nat → Int) (m : Nat) : Prop := ∀ i, i < n → (m.testBit i = false ↔ NR n F i)
theorem chL_occ (hF : CH n F) (hm : RangeM n F m) (hj : j < n) : ∀ k, k ≤ n → ((∃ s, s < k ∧ NR n F s ∧ Rch F s j) → occ (chL F n m k) j = 1) ∧ (¬ (∃ s, s < k ∧ NR n F s ∧ Rch F s j) → occ (chL F n m k) j = 0)
  | 0, _ => ⟨fun ⟨s, h, _⟩ => by omega, fun _ => rfl⟩
  | k + 1, hk => by
    have ih := chL_occ hF hm hj k (by omega)
    have hmk := hm k (by omega)
    unfold chL
    by_cases hb : m.testBit k = true
    · rw [if_pos hb]
      have hn : ¬ NR n F k := fun h => by rw [hmk.2 h] at hb; cases hb
      refine ⟨fun ⟨s, h1, h2, h3⟩ => ih.1 ⟨s, ?_, h2, h3⟩, fun h => ih.2 fun ⟨s, h1, h2⟩ => h ⟨s, by omega, h2⟩⟩
      apply Classical.byContradiction
      intro hge
      have : s = k := by omega
      subst this; exact hn h2
    · rw [if_neg hb, occ_snoc]
      have hn : NR n F k := hmk.1 (by simpa using hb)
      have hw := mem_way (j := j) hF (show k < n by omega) (.inl hn)
      by_cases hr : Rch F k j
      · have h0 : occ (chL F n m k) j = 0 := ih.2 fun ⟨s, h1, h2, h3⟩ => by
          rcases Rch.join hF (by omega) (by omega) h3 hr with h4 | h4
          · have := hn.only hF (by omega) h4; omega
          · have := h2.only hF (by omega) h4; omega
        rw [h0, count_in (way_nodup hF (by omega)) (hw.2 hr)]
        exact ⟨fun _ => rfl, fun h => absurd ⟨k, by omega, hn, hr⟩ h⟩
      · rw [List.count_eq_zero.2 (fun h => hr (hw.1 h)), Nat.add_zero]
        refine ⟨fun ⟨s, h1, h2, h3⟩ => ih.1 ⟨s, ?_, h2, h3⟩, fun h => ih.2 fun ⟨s, h1, h2⟩ => h ⟨s, by omega, h2⟩⟩
        apply Classical.byContradiction
        intro hge
        have : s = k := by omega
        subst this; exact hr h3
/-- what chains meet -/
def ChainM (n : Nat) (F : Nat → Int) (q : Nat) : Prop := ∀ j, j < n → (q.testBit j = true ↔ ∃ s, s < n ∧ NR n F s ∧ Rch F s j)
theorem chL_mask (hF : CH n F) (hm : RangeM n F m) : ChainM n F (orSS 0 (chL F n m n)) := fun j hj => by
  have ho := chL_occ hF hm hj n (Nat.le_refl _)
  rw [orSS_bit _ _ (fun L hL z hz => (chL_ent hF n (Nat.le_refl _) L hL z hz).1)]
  simp only [Nat.zero_testBit, Bool.false_eq_true, false_or]
  constructor
  · rintro ⟨L, hL, hz⟩
    apply Classical.byContradiction
    intro hno
    exact occ_mem (ho.2 hno) L hL hz
  · intro hex
    apply Classical.byContradiction
    intro hno
    have := mem_occ (Ls := chL F n m n) (z := (j : Int)) (fun L hL hz => hno ⟨L, hL, hz⟩)
    have := ho.1 hex
    omega
theorem cyL_occ (hF : CH n F) {q : Nat} (hq : ChainM n F q) : ∀ k, k ≤ n → ∀ j, j < n → (Cyc F j → (∃ i, i < k ∧ Rch F j i) → occ (cyL F n q k) j = 1) ∧ (¬ (Cyc F j ∧ ∃ i, i < k ∧ Rch F j i) → occ (cyL F n q k) j = 0)
  | 0, _, j, _ => ⟨fun _ ⟨s, h, _⟩ => by omega, fun _ => rfl⟩
  | k + 1, hk, j, hj => by
    have ih := cyL_occ hF hq k (by omega) j hj
    have hbit : (orSS q (cyL F n q k)).testBit k = true ↔ (¬ Cyc F k ∨ ∃ i, i < k ∧ Rch F k i) := by
      have ihk := cyL_occ hF hq k (by omega) k (show k < n by omega)
      rw [orSS_bit _ _ (fun L hL z hz => (cyL_ent hF k (by omega) L hL z hz).1), hq k (by omega)]
      constructor
      · rintro (⟨s, h1, h2, h3⟩ | ⟨L, hL, hz⟩)
        · exact .inl fun hc => h2.noCyc hF h1 (hc.of (hc.to hF h1 (by omega) h3))
        · apply Classical.byContradiction
          intro hno
          refine occ_mem (ihk.2 fun h => hno (.inr h.2)) L hL hz
      · intro h
        rcases start_or_cyc hF (show k < n by omega) with h1 | h1
        · exact .inl h1
        · right
          apply Classical.byContradiction
          intro hno
          have h2 := mem_occ (Ls := cyL F n q k) (z := (k : Int)) (fun L hL hz => hno ⟨L, hL, hz⟩)
          have h3 := ihk.1 h1 (h.resolve_left (fun h' => h' h1))
          omega
    unfold cyL
    by_cases hb : (orSS q (cyL F n q k)).testBit k = true
    · rw [if_pos hb]
      have hbk := hbit.1 hb
      have key : Cyc F j → (∃ i, i < k + 1 ∧ Rch F j i) → ∃ i, i < k ∧ Rch F j i := fun hc ⟨i, h1, h2⟩ => by
        by_cases e : i = k
        · subst e
          rcases hbk with h3 | ⟨i', h3, h4⟩
          · exact absurd (hc.of h2) h3
          · exact ⟨i', h3, h2.trans h4⟩
        · exact ⟨i, by omega, h2⟩
      exact ⟨fun hc h => ih.1 hc (key hc h), fun h => ih.2 fun ⟨hc, i, h1, h2⟩ => h ⟨hc, i, by omega, h2⟩⟩
    · rw [if_neg hb, occ_snoc]
      have hnb := fun h => hb (hbit.2 h)
      have hck : Cyc F k := Classical.byContradiction fun h => hnb (.inl h)
      have hw := mem_way (j := j) hF (show k < n by omega) (.inr hck)
      by_cases hr : Rch F k j
      · have hjc := hck.of hr
        have h0 : occ (cyL F n q k) j = 0 := ih.2 fun ⟨_, i, h1, h2⟩ => hnb (.inr ⟨i, h1, hr.trans h2⟩)
        rw [h0, count_in (way_nodup hF (by omega)) (hw.2 hr)]
        exact ⟨fun _ _ => rfl, fun h => absurd ⟨hjc, k, by omega, hck.back hr⟩ h⟩
      · rw [List.count_eq_zero.2 (fun h => hr (hw.1 h)), Nat.add_zero]
        refine ⟨fun hc ⟨i, h1, h2⟩ => ih.1 hc ⟨i, ?_, h2⟩, fun h => ih.2 fun ⟨hc, i, h1, h2⟩ => h ⟨hc, i, by omega, h2⟩⟩
        apply Classical.byContradiction
        intro hge
        have : i = k := by omega
        subst this; exact hr (hc.back h2)
/-- each point is in just one way -/
theorem ways_once (hF : CH n F) (hm : RangeM n F m) (hj : j < n) : occ (chL F n m n ++ cyL F n (orSS 0 (chL F n m n)) n) j = 1 := by
  have h1 := chL_occ hF hm hj n (Nat.le_refl _)
  have h2 := cyL_occ hF (chL_mask hF hm) n (Nat.le_refl _) j hj
  rw [occ_append]
  rcases start_or_cyc hF hj with h | h
  · have hnc : ¬ Cyc F j := fun hc => by
      obtain ⟨s, h3, h4, h5⟩ := h
      exact h4.noCyc hF h3 (hc.of (hc.to hF h3 hj h5))
    rw [h1.1 h, h2.2 (fun h' => hnc h'.1)]
  · have hns : ¬ ∃ s, s < n ∧ NR n F s ∧ Rch F s j := fun ⟨s, h3, h4, h5⟩ => h4.noCyc hF h3 (h.of (h.to hF h3 hj h5))
    rw [h1.2 hns, h2.1 h ⟨j, hj, Rch.refl F j⟩]
end

/-! ### sums over points -/
def sumP (g : Nat → Nat) : Nat → Nat
  | 0 => 0
  | k + 1 => sumP g k + g k
def sumL (g : Nat → Nat) : List Int → Nat
  | [] => 0
  | z :: L => g z.toNat + sumL g L
def sumSS (g : Nat → Nat) : List (List Int) → Nat
  | [] => 0
  | L :: Ls => sumL g L + sumSS g Ls
theorem sumP_congr {g g' : Nat → Nat} : ∀ {k : Nat}, (∀ j, j < k → g j = g' j) → sumP g k = sumP g' k
  | 0, _ => rfl
  | k + 1, h => by simp only [sumP]; rw [sumP_congr (fun j hj => h j (by omega)), h k (by omega)]
theorem sumP_add (g g' : Nat → Nat) : ∀ k, sumP (fun j => g j + g' j) k = sumP g k + sumP g' k
  | 0 => rfl
  | k + 1 => by simp only [sumP]; rw [sumP_add g g' k]; omega
theorem sumP_one (g : Nat → Nat) {z : Nat} : ∀ {k : Nat}, z < k → sumP (fun j => g j * (if (z : Int) = (j : Int) then 1 else 0)) k = g z
  | 0, h => by omega
  | k + 1, h => by
    simp only [sumP]
    by_cases e : z = k
    · subst e
      rw [if_pos rfl, sumP_congr (g' := fun _ => 0) (fun j hj => by rw [if_neg (by omega)]; simp)]
      have : ∀ k, sumP (fun _ => 0) k = 0 := fun k => by induction k with
        | zero => rfl
        | succ k ih => simp [sumP, ih]
      rw [this]; omega
    · rw [sumP_one g (by omega), if_neg (by omega)]; omega
theorem sumL_count (g : Nat → Nat) {n : Nat} : ∀ (L : List Int), (∀ z ∈ L, 0 ≤ z ∧ z < n) → sumL g L = sumP (fun j => g j * L.count (j : Int)) n
  | [], _ => by
    have : ∀ k, sumP (fun j => g j * ([] : List Int).count (j : Int)) k = 0 := fun k => by induction k with
      | zero => rfl
      | succ k ih => simp only [sumP, ih]; simp
    rw [this]; rfl
  | z :: L, h => by
    have hz := h z List.mem_cons_self
    obtain ⟨y, rfl⟩ := Int.eq_ofNat_of_zero_le hz.1
    simp only [sumL]
    rw [sumL_count g L (fun x hx => h x (List.mem_cons_of_mem _ hx)), Int.toNat_natCast, ← sumP_one g (show y < n by omega), ← sumP_add]
    refine sumP_congr (fun j hj => ?_)
    rw [List.count_cons, Nat.mul_add]
    simp only [beq_iff_eq]
    omega
theorem sumSS_occ (g : Nat → Nat) {n : Nat} : ∀ (Ls : List (List Int)), (∀ L ∈ Ls, ∀ z ∈ L, 0 ≤ z ∧ z < n) → sumSS g Ls = sumP (fun j => g j * occ Ls (j : Int)) n
  | [], _ => by
    have : ∀ k, sumP (fun j => g j * occ [] (j : Int)) k = 0 := fun k => by induction k with
      | zero => rfl
      | succ k ih => simp only [sumP, ih]; simp [occ]
    rw [this]; rfl
  | L :: Ls, h => by
    simp only [sumSS]
    rw [sumSS_occ g Ls (fun M hM => h M (List.mem_cons_of_mem _ hM)), sumL_count g L (h L List.mem_cons_self), ← sumP_add]
    exact sumP_congr (fun j hj => by simp only [occ]; rw [Nat.mul_add])
/-- over all ways, each point once -/
theorem sum_ways {n m : Nat} {F : Nat → Int} (hF : CH n F) (hm : RangeM n F m) (g : Nat → Nat) : sumSS g (chL F n m n ++ cyL F n (orSS 0 (chL F n m n)) n) = sumP g n := by
  rw [sumSS_occ g (n := n)]
  · exact sumP_congr (fun j hj => by rw [ways_once hF hm hj, Nat.mul_one])
  · intro L hL
    rcases List.mem_append.1 hL with h | h
    · exact chL_ent hF n (Nat.le_refl _) L h
    · exact cyL_ent hF n (Nat.le_refl _) L h
end Go.Proofs.Ytckppfgooflooaa
