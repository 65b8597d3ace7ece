/-
  Shapes: the lengths of the ways tell how many points each power moves, and how many it leaves, and these tell the lengths; no program.
-/
import Derived.Test.YtckppfgooflooaaWayB
namespace Go.Proofs.Ytckppfgooflooaa
set_option maxRecDepth 100000

/-- how many points are moved k times -/
def rkF (n : Nat) (F : Nat → Int) (k : Nat) : Nat := sumP (fun j => if 0 ≤ itF F j k then 1 else 0) n
/-- how many points are at home after k moves -/
def fxF (n : Nat) (F : Nat → Int) (k : Nat) : Nat := sumP (fun j => if itF F j k = (j : Int) then 1 else 0) n
/-- the lengths of lists -/
def lens (Ls : List (List Int)) : List Int := Ls.map (fun L => (L.length : Int))

theorem sumL_append (g : Nat → Nat) (L M : List Int) : sumL g (L ++ M) = sumL g L + sumL g M := by
  induction L with
  | nil => simp [sumL]
  | cons z L ih => simp only [List.cons_append, sumL, ih]; omega
theorem sumL_LT (g : Nat → Nat) (T : Nat → Int) : ∀ m, sumL g (LT m T) = sumP (fun i => g (T i).toNat) m
  | 0 => rfl
  | m + 1 => by rw [LT_succ, sumL_append, sumL_LT g T m]; simp [sumL, sumP]
theorem sumSS_append (g : Nat → Nat) (Ls Ms : List (List Int)) : sumSS g (Ls ++ Ms) = sumSS g Ls + sumSS g Ms := by
  induction Ls with
  | nil => simp [sumSS]
  | cons z L ih => simp only [List.cons_append, sumSS, ih]; omega
theorem sumP_le (k e : Nat) : ∀ m, m ≤ e + 1 → sumP (fun i => if i + k ≤ e then 1 else 0) m = min m (e + 1 - k)
  | 0, _ => by simp [sumP]
  | m + 1, h => by
    simp only [sumP]
    rw [sumP_le k e m (by omega)]
    by_cases hc : m + k ≤ e
    · rw [if_pos hc]; omega
    · rw [if_neg hc]; omega
theorem sumP_const (c : Nat) : ∀ m, sumP (fun _ => c) m = m * c
  | 0 => by simp [sumP]
  | m + 1 => by simp only [sumP]; rw [sumP_const c m, Nat.succ_mul]

section
variable {n : Nat} {F : Nat → Int} {s : Nat}
theorem way_len (hF : CH n F) (hs : s < n) : 1 ≤ (wayL F n s).length ∧ (wayL F n s).length ≤ n := by
  obtain ⟨e, h1, h2, h3, h4, h5⟩ := way_spec hF hs
  rw [h1, LT_length]; omega
theorem chain_moved (hF : CH n F) (hs : s < n) (hn : NR n F s) (k : Nat) : sumL (fun j => if 0 ≤ itF F j k then 1 else 0) (wayL F n s) = (wayL F n s).length - k := by
  obtain ⟨e, h1, h2, h3, h4, h5⟩ := way_spec hF hs
  have h6 : itF F s (e + 1) = -1 := h5.resolve_right (fun h => hn.noCyc hF hs ⟨e + 1, by omega, h⟩)
  rw [h1, LT_length, sumL_LT, sumP_congr (g' := fun i => if i + k ≤ e then 1 else 0), sumP_le k e (e + 1) (Nat.le_refl _)]
  · omega
  · intro i hi
    have p := itF_down i (e - i) (by rw [show i + (e - i) = e by omega]; exact h3)
    show (if 0 ≤ itF F (itF F s i).toNat k then 1 else 0) = _
    rw [← it_add i k p]
    by_cases hc : i + k ≤ e
    · rw [if_pos hc, if_pos (itF_down (i + k) (e - (i + k)) (by rw [show i + k + (e - (i + k)) = e by omega]; exact h3))]
    · rw [if_neg hc, if_neg]
      intro h
      have := itF_down (s := s) (F := F) (e + 1) (i + k - (e + 1)) (by rw [show e + 1 + (i + k - (e + 1)) = i + k by omega]; exact h)
      omega
theorem cycle_moved (hF : CH n F) (hs : s < n) (hc : Cyc F s) (k : Nat) : sumL (fun j => if 0 ≤ itF F j k then 1 else 0) (wayL F n s) = (wayL F n s).length := by
  obtain ⟨e, h1, h2, h3, h4, h5⟩ := way_spec hF hs
  rw [h1, LT_length, sumL_LT, sumP_congr (g' := fun _ => 1), sumP_const, Nat.mul_one]
  intro i _
  show (if 0 ≤ itF F (itF F s i).toNat k then 1 else 0) = _
  rw [← it_add i k (hc.pos i), if_pos (hc.pos _)]
theorem chain_home (hF : CH n F) (hs : s < n) (hn : NR n F s) {k : Nat} (hk : 1 ≤ k) : sumL (fun j => if itF F j k = (j : Int) then 1 else 0) (wayL F n s) = 0 := by
  obtain ⟨e, h1, h2, h3, h4, h5⟩ := way_spec hF hs
  rw [h1, sumL_LT, sumP_congr (g' := fun _ => 0), sumP_const, Nat.mul_zero]
  intro i hi
  have p := itF_down i (e - i) (by rw [show i + (e - i) = e by omega]; exact h3)
  show (if itF F (itF F s i).toNat k = (((itF F s i).toNat : Nat) : Int) then 1 else 0) = _
  rw [← it_add i k p, if_neg]
  intro h
  exact hn.noCyc hF hs ⟨k, hk, itF_back hF hs i k (by omega) (by omega)⟩
theorem cycle_home (hF : CH n F) (hs : s < n) (hc : Cyc F s) (k : Nat) : sumL (fun j => if itF F j k = (j : Int) then 1 else 0) (wayL F n s) = if k % (wayL F n s).length = 0 then (wayL F n s).length else 0 := by
  obtain ⟨e, h1, h2, h3, h4, h5⟩ := way_spec hF hs
  have h6 : itF F s (e + 1) = (s : Int) := h5.resolve_left (fun h => by have := hc.pos (e + 1); omega)
  have hk : itF F s k = itF F s (k % (e + 1)) := by
    conv => lhs; rw [show k = (e + 1) * (k / (e + 1)) + k % (e + 1) from (Nat.div_add_mod k (e + 1)).symm]
    rw [it_via (it_mul h6 _)]
  have hiff : itF F s k = (s : Int) ↔ k % (e + 1) = 0 := by
    rw [hk]
    have hlt := Nat.mod_lt k (show 0 < e + 1 by omega)
    constructor
    · intro h
      apply Classical.byContradiction
      intro h0
      exact h4 _ (by omega) (by omega) h
    · intro h; rw [h]; rfl
  rw [h1, LT_length, sumL_LT, sumP_congr (g' := fun _ => if k % (e + 1) = 0 then 1 else 0), sumP_const]
  · by_cases hc' : k % (e + 1) = 0
    · rw [if_pos hc', if_pos hc', Nat.mul_one]
    · rw [if_neg hc', if_neg hc', Nat.mul_zero]
  · intro i hi
    show (if itF F (itF F s i).toNat k = (((itF F s i).toNat : Nat) : Int) then 1 else 0) = _
    have p := hc.pos i
    rw [← it_add i k p]
    by_cases hc' : k % (e + 1) = 0
    · rw [if_pos hc', if_pos]
      rw [Nat.add_comm, it_via (hiff.2 hc')]; omega
    · rw [if_neg hc', if_neg]
      intro h
      exact hc' (hiff.1 (itF_back hF hs i k (by have := hc.pos (i + k); exact this) (by omega)))

/-! ### all ways -/
def sub_ (k : Nat) (x : Int) : Nat := x.toNat - k
def per_ (k : Nat) (x : Int) : Nat := if k % x.toNat = 0 then x.toNat else 0
def sumI (g : Int → Nat) : List Int → Nat
  | [] => 0
  | x :: L => g x + sumI g L
theorem sumI_append (g : Int → Nat) (L M : List Int) : sumI g (L ++ M) = sumI g L + sumI g M := by
  induction L with
  | nil => simp [sumI]
  | cons z L ih => simp only [List.cons_append, sumI, ih]; omega
theorem lens_append (L M : List (List Int)) : lens (L ++ M) = lens L ++ lens M := by simp [lens]
variable {m q : Nat}
theorem chL_moved (hF : CH n F) (hm : RangeM n F m) (k : Nat) : ∀ b, b ≤ n → sumSS (fun j => if 0 ≤ itF F j k then 1 else 0) (chL F n m b) = sumI (sub_ k) (lens (chL F n m b))
  | 0, _ => rfl
  | b + 1, hb => by
    unfold chL
    by_cases h : m.testBit b = true
    · rw [if_pos h]; exact chL_moved hF hm k b (by omega)
    · rw [if_neg h, sumSS_append, chL_moved hF hm k b (by omega), lens_append, sumI_append]
      simp only [sumSS, Nat.add_zero, lens, List.map_cons, List.map_nil, sumI, sub_, Int.toNat_natCast]
      rw [chain_moved hF (by omega) ((hm b (by omega)).1 (by simpa using h)) k]
theorem chL_home (hF : CH n F) (hm : RangeM n F m) {k : Nat} (hk : 1 ≤ k) : ∀ b, b ≤ n → sumSS (fun j => if itF F j k = (j : Int) then 1 else 0) (chL F n m b) = 0
  | 0, _ => rfl
  | b + 1, hb => by
    unfold chL
    by_cases h : m.testBit b = true
    · rw [if_pos h]; exact chL_home hF hm hk b (by omega)
    · rw [if_neg h, sumSS_append, chL_home hF hm hk b (by omega)]
      simp only [sumSS, Nat.add_zero, Nat.zero_add]
      exact chain_home hF (by omega) ((hm b (by omega)).1 (by simpa using h)) hk
/-- whose cycles are told comes back -/
theorem cyL_new (hF : CH n F) (hq : ChainM n F q) {b : Nat} (hb : b < n) (h : ¬ (orSS q (cyL F n q b)).testBit b = true) : Cyc F b ∧ ∀ i, i < b → ¬ Rch F b i := by
  have hb' : ¬ ((∃ s, s < n ∧ NR n F s ∧ Rch F s b) ∨ ∃ L ∈ cyL F n q b, (b : Int) ∈ L) := fun h' => h ((orSS_bit _ _ (fun L hL z hz => (cyL_ent hF b (by omega) L hL z hz).1)).2 (by rw [hq b hb]; exact h'))
  have hc : Cyc F b := (start_or_cyc hF hb).resolve_left (fun h' => hb' (.inl h'))
  refine ⟨hc, fun i hi hr => hb' (.inr ?_)⟩
  apply Classical.byContradiction
  intro hno
  have h2 := mem_occ (Ls := cyL F n q b) (z := (b : Int)) (fun L hL hz => hno ⟨L, hL, hz⟩)
  have h3 := (cyL_occ hF hq b (by omega) b hb).1 hc ⟨i, hi, hr⟩
  omega
theorem cyL_moved (hF : CH n F) (hq : ChainM n F q) (k : Nat) : ∀ b, b ≤ n → sumSS (fun j => if 0 ≤ itF F j k then 1 else 0) (cyL F n q b) = sumI (sub_ 0) (lens (cyL F n q b))
  | 0, _ => rfl
  | b + 1, hb => by
    unfold cyL
    by_cases h : (orSS q (cyL F n q b)).testBit b = true
    · rw [if_pos h]; exact cyL_moved hF hq k b (by omega)
    · rw [if_neg h, sumSS_append, cyL_moved hF hq k b (by omega), lens_append, sumI_append]
      simp only [sumSS, Nat.add_zero, lens, List.map_cons, List.map_nil, sumI, sub_, Int.toNat_natCast]
      rw [cycle_moved hF (by omega) (cyL_new hF hq (by omega) h).1 k]; simp
theorem cyL_home (hF : CH n F) (hq : ChainM n F q) (k : Nat) : ∀ b, b ≤ n → sumSS (fun j => if itF F j k = (j : Int) then 1 else 0) (cyL F n q b) = sumI (per_ k) (lens (cyL F n q b))
  | 0, _ => rfl
  | b + 1, hb => by
    unfold cyL
    by_cases h : (orSS q (cyL F n q b)).testBit b = true
    · rw [if_pos h]; exact cyL_home hF hq k b (by omega)
    · rw [if_neg h, sumSS_append, cyL_home hF hq k b (by omega), lens_append, sumI_append]
      simp only [sumSS, Nat.add_zero, lens, List.map_cons, List.map_nil, sumI, per_, Int.toNat_natCast]
      rw [cycle_home hF (by omega) (cyL_new hF hq (by omega) h).1 k]
theorem moved_shape (hF : CH n F) (hm : RangeM n F m) (k : Nat) : rkF n F k = sumI (sub_ k) (lens (chL F n m n)) + sumI (sub_ 0) (lens (cyL F n (orSS 0 (chL F n m n)) n)) := by
  unfold rkF
  rw [← sum_ways hF hm, sumSS_append, chL_moved hF hm k n (Nat.le_refl _), cyL_moved hF (chL_mask hF hm) k n (Nat.le_refl _)]
theorem home_shape (hF : CH n F) (hm : RangeM n F m) {k : Nat} (hk : 1 ≤ k) : fxF n F k = sumI (per_ k) (lens (cyL F n (orSS 0 (chL F n m n)) n)) := by
  unfold fxF
  rw [← sum_ways hF hm, sumSS_append, chL_home hF hm hk n (Nat.le_refl _), cyL_home hF (chL_mask hF hm) k n (Nat.le_refl _), Nat.zero_add]
theorem chL_lens (hF : CH n F) : ∀ b, b ≤ n → ∀ x ∈ lens (chL F n m b), 1 ≤ x ∧ x ≤ 6
  | 0, _, x, hx => by simp [chL, lens] at hx
  | b + 1, hb, x, hx => by
    have h6 := hF.six
    unfold chL at hx
    split at hx
    · exact chL_lens hF b (by omega) x hx
    · rw [lens_append] at hx
      rcases List.mem_append.1 hx with h | h
      · exact chL_lens hF b (by omega) x h
      · have := way_len hF (show b < n by omega)
        simp [lens] at h; omega
theorem cyL_lens (hF : CH n F) : ∀ b, b ≤ n → ∀ x ∈ lens (cyL F n q b), 1 ≤ x ∧ x ≤ 6
  | 0, _, x, hx => by simp [cyL, lens] at hx
  | b + 1, hb, x, hx => by
    have h6 := hF.six
    unfold cyL at hx
    split at hx
    · exact cyL_lens hF b (by omega) x hx
    · rw [lens_append] at hx
      rcases List.mem_append.1 hx with h | h
      · exact cyL_lens hF b (by omega) x h
      · have := way_len hF (show b < n by omega)
        simp [lens] at h; omega
end

/-! ### sorted lists -/
def insI (x : Int) : List Int → List Int
  | [] => [x]
  | y :: L => if x < y then x :: y :: L else y :: insI x L
def srt (L : List Int) : List Int := L.foldl (fun a x => insI x a) []
theorem insI_count (x : Int) (v : Int) : ∀ L, (insI x L).count v = L.count v + (if x = v then 1 else 0)
  | [] => by simp [insI, List.count_cons]
  | y :: L => by
    unfold insI
    by_cases h : x < y
    · rw [if_pos h]; simp only [List.count_cons, beq_iff_eq]
    · rw [if_neg h, List.count_cons, insI_count x v L, List.count_cons]; omega
theorem insI_mem (x : Int) {v : Int} {L : List Int} (h : v ∈ insI x L) : v = x ∨ v ∈ L := by
  have h1 := List.count_pos_iff.2 h
  rw [insI_count] at h1
  by_cases e : x = v
  · exact .inl e.symm
  · rw [if_neg e] at h1; exact .inr (List.count_pos_iff.1 (by omega))
theorem insI_sorted (x : Int) : ∀ {L : List Int}, L.Pairwise (· ≤ ·) → (insI x L).Pairwise (· ≤ ·)
  | [], _ => by simp [insI]
  | y :: L, h => by
    unfold insI
    rw [List.pairwise_cons] at h
    by_cases hc : x < y
    · rw [if_pos hc, List.pairwise_cons]
      refine ⟨fun z hz => ?_, List.pairwise_cons.2 h⟩
      rcases List.mem_cons.1 hz with rfl | hz
      · omega
      · have := h.1 z hz; omega
    · rw [if_neg hc, List.pairwise_cons]
      refine ⟨fun z hz => ?_, insI_sorted x h.2⟩
      rcases insI_mem x hz with rfl | hz
      · omega
      · exact h.1 z hz
theorem srt_go : ∀ (L a : List Int), a.Pairwise (· ≤ ·) → (L.foldl (fun a x => insI x a) a).Pairwise (· ≤ ·) ∧ ∀ v, (L.foldl (fun a x => insI x a) a).count v = a.count v + L.count v
  | [], a, h => ⟨h, fun v => by simp⟩
  | x :: L, a, h => by
    have ih := srt_go L (insI x a) (insI_sorted x h)
    refine ⟨ih.1, fun v => ?_⟩
    show (L.foldl (fun a x => insI x a) (insI x a)).count v = _
    rw [ih.2, insI_count, List.count_cons]; simp only [beq_iff_eq]; omega
theorem srt_sorted (L : List Int) : (srt L).Pairwise (· ≤ ·) := (srt_go L [] List.Pairwise.nil).1
theorem srt_count (L : List Int) (v : Int) : (srt L).count v = L.count v := by
  have := (srt_go L [] List.Pairwise.nil).2 v
  simpa [srt] using this
theorem sorted_ext : ∀ {L M : List Int}, L.Pairwise (· ≤ ·) → M.Pairwise (· ≤ ·) → (∀ v, L.count v = M.count v) → L = M
  | [], [], _, _, _ => rfl
  | [], y :: M, _, _, h => by have := h y; simp at this
  | x :: L, [], _, _, h => by have := h x; simp at this
  | x :: L, y :: M, hL, hM, h => by
    rw [List.pairwise_cons] at hL hM
    have hx : x ∈ y :: M := List.count_pos_iff.1 (by rw [← h x]; simp)
    have hy : y ∈ x :: L := List.count_pos_iff.1 (by rw [h y]; simp)
    have e : x = y := by
      rcases List.mem_cons.1 hx with e | hx
      · exact e
      · rcases List.mem_cons.1 hy with e | hy
        · exact e.symm
        · have := hM.1 x hx; have := hL.1 y hy; omega
    subst e
    congr 1
    refine sorted_ext hL.2 hM.2 (fun v => ?_)
    have := h v
    simp only [List.count_cons] at this
    omega
theorem srt_ext {L M : List Int} (h : ∀ v, L.count v = M.count v) : srt L = srt M := sorted_ext (srt_sorted L) (srt_sorted M) (fun v => by rw [srt_count, srt_count, h])
/-- sums over a list with entries up to 6, by counts -/
theorem sumI_count (g : Int → Nat) : ∀ (L : List Int), (∀ x ∈ L, 1 ≤ x ∧ x ≤ 6) → sumI g L = g 1 * L.count 1 + g 2 * L.count 2 + g 3 * L.count 3 + g 4 * L.count 4 + g 5 * L.count 5 + g 6 * L.count 6
  | [], _ => by simp [sumI]
  | x :: L, h => by
    have hx := h x List.mem_cons_self
    have ih := sumI_count g L (fun y hy => h y (List.mem_cons_of_mem _ hy))
    have hc : x = 1 ∨ x = 2 ∨ x = 3 ∨ x = 4 ∨ x = 5 ∨ x = 6 := by omega
    simp only [sumI, ih, List.count_cons]
    rcases hc with rfl | rfl | rfl | rfl | rfl | rfl <;> simp [Nat.mul_add] <;> omega
theorem count_out {L : List Int} (h : ∀ x ∈ L, 1 ≤ x ∧ x ≤ 6) {v : Int} (hv : ¬ (1 ≤ v ∧ v ≤ 6)) : L.count v = 0 := List.count_eq_zero.2 (fun hm => hv (h v hm))
/-- the sums tell the counts: of chains -/
theorem chains_told {L M : List Int} (hL : ∀ x ∈ L, 1 ≤ x ∧ x ≤ 6) (hM : ∀ x ∈ M, 1 ≤ x ∧ x ≤ 6) {a b : Nat} (h : ∀ k, k ≤ 7 → sumI (sub_ k) L + a = sumI (sub_ k) M + b) : srt L = srt M := by
  have h0 := h 0 (by omega); have h1 := h 1 (by omega); have h2 := h 2 (by omega); have h3 := h 3 (by omega)
  have h4 := h 4 (by omega); have h5 := h 5 (by omega); have h6 := h 6 (by omega)
  simp only [sumI_count _ L hL, sumI_count _ M hM, sub_] at h0 h1 h2 h3 h4 h5 h6
  simp at h0 h1 h2 h3 h4 h5 h6
  refine srt_ext (fun v => ?_)
  by_cases hv : 1 ≤ v ∧ v ≤ 6
  · have hc : v = 1 ∨ v = 2 ∨ v = 3 ∨ v = 4 ∨ v = 5 ∨ v = 6 := by omega
    rcases hc with rfl | rfl | rfl | rfl | rfl | rfl <;> omega
  · rw [count_out hL hv, count_out hM hv]
/-- .. of cycles -/
theorem cycles_told {L M : List Int} (hL : ∀ x ∈ L, 1 ≤ x ∧ x ≤ 6) (hM : ∀ x ∈ M, 1 ≤ x ∧ x ≤ 6) (h : ∀ k, 1 ≤ k → k ≤ 6 → sumI (per_ k) L = sumI (per_ k) M) : srt L = srt M := by
  have h1 := h 1 (by omega) (by omega); have h2 := h 2 (by omega) (by omega); have h3 := h 3 (by omega) (by omega)
  have h4 := h 4 (by omega) (by omega); have h5 := h 5 (by omega) (by omega); have h6 := h 6 (by omega) (by omega)
  simp only [sumI_count _ L hL, sumI_count _ M hM, per_] at h1 h2 h3 h4 h5 h6
  simp at h1 h2 h3 h4 h5 h6
  refine srt_ext (fun v => ?_)
  by_cases hv : 1 ≤ v ∧ v ≤ 6
  · have hc : v = 1 ∨ v = 2 ∨ v = 3 ∨ v = 4 ∨ v = 5 ∨ v = 6 := by omega
    rcases hc with rfl | rfl | rfl | rfl | rfl | rfl <;> omega
  · rw [count_out hL hv, count_out hM hv]
theorem told_sum {L M : List Int} (hL : ∀ x ∈ L, 1 ≤ x ∧ x ≤ 6) (hM : ∀ x ∈ M, 1 ≤ x ∧ x ≤ 6) (h : srt L = srt M) (g : Int → Nat) : sumI g L = sumI g M := by
  have hc : ∀ v, L.count v = M.count v := fun v => by rw [← srt_count L, ← srt_count M, h]
  rw [sumI_count g L hL, sumI_count g M hM]
  simp only [hc]

/-- the shape: chains' lengths, cycles' lengths -/
def shC (n : Nat) (F : Nat → Int) (m : Nat) : List Int := srt (lens (chL F n m n))
def shY (n : Nat) (F : Nat → Int) (m : Nat) : List Int := srt (lens (cyL F n (orSS 0 (chL F n m n)) n))
theorem shape_of {n : Nat} {F G : Nat → Int} {m m' : Nat} (hF : CH n F) (hG : CH n G) (hm : RangeM n F m) (hm' : RangeM n G m') (hr : ∀ k, rkF n F k = rkF n G k) (hx : ∀ k, 1 ≤ k → fxF n F k = fxF n G k) :
    shC n F m = shC n G m' ∧ shY n F m = shY n G m' :=
  ⟨chains_told (chL_lens hF n (Nat.le_refl _)) (chL_lens hG n (Nat.le_refl _)) (fun k _ => by have := hr k; rw [moved_shape hF hm, moved_shape hG hm'] at this; exact this),
   cycles_told (cyL_lens hF n (Nat.le_refl _)) (cyL_lens hG n (Nat.le_refl _)) (fun k h1 _ => by have := hx k h1; rw [home_shape hF hm h1, home_shape hG hm' h1] at this; exact this)⟩
theorem of_shape {n : Nat} {F G : Nat → Int} {m m' : Nat} (hF : CH n F) (hG : CH n G) (hm : RangeM n F m) (hm' : RangeM n G m') (h : shC n F m = shC n G m') (h' : shY n F m = shY n G m') :
    (∀ k, rkF n F k = rkF n G k) ∧ ∀ k, 1 ≤ k → fxF n F k = fxF n G k :=
  ⟨fun k => by rw [moved_shape hF hm, moved_shape hG hm', told_sum (chL_lens hF n (Nat.le_refl _)) (chL_lens hG n (Nat.le_refl _)) h, told_sum (cyL_lens hF n (Nat.le_refl _)) (cyL_lens hG n (Nat.le_refl _)) h'],
   fun k hk => by rw [home_shape hF hm hk, home_shape hG hm' hk, told_sum (cyL_lens hF n (Nat.le_refl _)) (cyL_lens hG n (Nat.le_refl _)) h']⟩
end Go.Proofs.Ytckppfgooflooaa
