/-
  The chart of some ways: it is a chart, its rank, how many ways it has; no program.
-/
import Derived.Test.YtckppfgooflooaaWayF
namespace Go.Proofs.Ytckppfgooflooaa
set_option maxRecDepth 100000

theorem it0 (F : Nat → Int) (s : Nat) : 0 ≤ itF F s 0 := by show (0 : Int) ≤ (s : Int); omega
theorem chL_succ (F : Nat → Int) (n m b : Nat) : chL F n m (b + 1) = if m.testBit b = true then chL F n m b else chL F n m b ++ [wayL F n b] := rfl
theorem cyL_succ (F : Nat → Int) (n q b : Nat) : cyL F n q (b + 1) = if (orSS q (cyL F n q b)).testBit b = true then cyL F n q b else cyL F n q b ++ [wayL F n b] := rfl
theorem cnt_not (P : Nat → Bool) : ∀ k, cnt P k + cnt (fun j => !P j) k = k
  | 0 => rfl
  | k + 1 => by have := cnt_not P k; rw [cnt_succ, cnt_succ]; cases P k <;> simp <;> omega
section
variable {n m q : Nat} {F : Nat → Int}
theorem NR_trn (hF : CH n F) {s : Nat} (hs : s < n) : NR n F s ↔ trn n F s = -1 := (trn_none hF hs).symm
theorem chL_count (hF : CH n F) (hm : RangeM n F m) : ∀ b, b ≤ n → (chL F n m b).length = cnt (fun i => decide (trn n F i = -1)) b
  | 0, _ => rfl
  | b + 1, hb => by
    have ih := chL_count hF hm b (by omega)
    rw [cnt_succ, ← ih, chL_succ]
    have hmb := hm b (by omega)
    by_cases h : m.testBit b = true
    · rw [if_pos h, decide_eq_false (fun e => by rw [hmb.2 ((NR_trn hF (by omega)).2 e)] at h; cases h)]; rfl
    · rw [if_neg h, decide_eq_true ((NR_trn hF (by omega)).1 (hmb.1 (by simpa using h))), List.length_append]; rfl
theorem chL_total (hF : CH n F) (hm : RangeM n F m) : (chL F n m n).length = cnt (fun j => decide (F j = -1)) n := by
  rw [chL_count hF hm n (Nat.le_refl _)]
  have h1 := cnt_not (fun j => decide (trn n F j ≠ -1)) n
  have h2 := cnt_not (fun j => decide (F j ≠ -1)) n
  have h3 := cnt_trn hF
  have e1 : cnt (fun j => !decide (trn n F j ≠ -1)) n = cnt (fun i => decide (trn n F i = -1)) n := cnt_congr (fun j _ => by simp)
  have e2 : cnt (fun j => !decide (F j ≠ -1)) n = cnt (fun i => decide (F i = -1)) n := cnt_congr (fun j _ => by simp)
  omega
/-- the least point of a cycle -/
def Lea (F : Nat → Int) (i : Nat) : Prop := Cyc F i ∧ ∀ a, a < i → ¬ Rch F i a
noncomputable def leaB (F : Nat → Int) (i : Nat) : Bool := @decide (Lea F i) (Classical.propDecidable _)
theorem leaB_iff {i : Nat} : leaB F i = true ↔ Lea F i := by unfold leaB; exact @decide_eq_true_iff _ (Classical.propDecidable _)
theorem cyL_count (hF : CH n F) (hq : ChainM n F q) : ∀ b, b ≤ n → (cyL F n q b).length = cnt (leaB F) b
  | 0, _ => rfl
  | b + 1, hb => by
    have ih := cyL_count hF hq b (by omega)
    rw [cnt_succ, ← ih, cyL_succ]
    by_cases h : (orSS q (cyL F n q b)).testBit b = true
    · rw [if_pos h]
      have : leaB F b = false := by
        cases e : leaB F b with
        | false => rfl
        | true =>
          have hl := leaB_iff.1 e
          have h2 := (cyL_occ hF hq b (by omega) b (by omega)).2 (fun h' => by obtain ⟨_, i, h3, h4⟩ := h'; exact hl.2 i h3 h4)
          rcases (orSS_bit _ _ (fun L hL z hz => (cyL_ent hF b (by omega) L hL z hz).1)).1 h with h3 | ⟨L, hL, hz⟩
          · obtain ⟨s, h4, h5, h6⟩ := (hq b (by omega)).1 h3
            exact absurd (hl.1.of (hl.1.to hF h4 (by omega) h6)) (h5.noCyc hF h4)
          · exact absurd hz (occ_mem h2 L hL)
      rw [this]; rfl
    · rw [if_neg h, leaB_iff.2 (cyL_new hF hq (by omega) h), List.length_append]; rfl
end

section
variable {n : Nat} {T : Nat → Int}
theorem adj_next : ∀ {L : List Int}, Adj T L → ∀ z ∈ L, z ≠ lastI L → T z.toNat ∈ L
  | [], _, z, hz, _ => by cases hz
  | [y], _, z, hz, hne => by rw [List.mem_singleton.1 hz] at hne; simp [lastI] at hne
  | x :: y :: L, ha, z, hz, hne => by
    have hl : lastI (x :: y :: L) = lastI (y :: L) := by simp [lastI]
    rw [hl] at hne
    rcases List.mem_cons.1 hz with rfl | hz
    · rw [ha.2.1]; simp
    · exact List.mem_cons_of_mem _ (adj_next (L := y :: L) ha.2.2 z hz hne)
theorem adj_to_last : ∀ {L : List Int}, Adj T L → (∀ z ∈ L, 0 ≤ z) → ∀ z ∈ L, ∃ k, itF T z.toNat k = lastI L
  | [], _, _, z, hz => by cases hz
  | [y], _, h0, z, hz => ⟨0, by have := h0 y List.mem_cons_self; rw [List.mem_singleton.1 hz]; simp [itF, lastI]; omega⟩
  | x :: y :: L, ha, h0, z, hz => by
    have hl : lastI (x :: y :: L) = lastI (y :: L) := by simp [lastI]
    rw [hl]
    have ih := adj_to_last (L := y :: L) ha.2.2 (fun z hz => h0 z (List.mem_cons_of_mem _ hz))
    rcases List.mem_cons.1 hz with rfl | hz
    · obtain ⟨k, hk⟩ := ih y List.mem_cons_self
      have hy := h0 y (by simp)
      have h1 : itF T z.toNat 1 = ((y.toNat : Nat) : Int) := by
        rw [itF_succ, if_pos (it0 T z.toNat)]
        show T (((z.toNat : Nat) : Int)).toNat = _
        rw [Int.toNat_natCast, ha.2.1]; omega
      exact ⟨1 + k, by rw [it_via h1, hk]⟩
    · exact ih z hz
theorem adj_from_head : ∀ {L : List Int}, Adj T L → (∀ z ∈ L, 0 ≤ z) → ∀ z ∈ L, ∃ k, itF T (headI L).toNat k = z
  | [], _, _, z, hz => by cases hz
  | [y], _, h0, z, hz => ⟨0, by have := h0 y List.mem_cons_self; rw [List.mem_singleton.1 hz]; simp [itF, headI]; omega⟩
  | x :: y :: L, ha, h0, z, hz => by
    have hx := h0 x List.mem_cons_self
    have hy := h0 y (by simp)
    have hh : headI (x :: y :: L) = x := rfl
    rw [hh]
    have ih := adj_from_head (L := y :: L) ha.2.2 (fun z hz => h0 z (List.mem_cons_of_mem _ hz))
    rcases List.mem_cons.1 hz with rfl | hz
    · exact ⟨0, by simp [itF]; omega⟩
    · obtain ⟨k, hk⟩ := ih z hz
      have h1 : itF T x.toNat 1 = ((y.toNat : Nat) : Int) := by
        rw [itF_succ, if_pos (it0 T x.toNat)]
        show T (((x.toNat : Nat) : Int)).toNat = _
        rw [Int.toNat_natCast, ha.2.1]; omega
      exact ⟨1 + k, by rw [it_via h1]; exact hk⟩
theorem sumL_zero {g : Nat → Nat} : ∀ {L : List Int}, (∀ z ∈ L, g z.toNat = 0) → sumL g L = 0
  | [], _ => rfl
  | z :: L, h => by simp only [sumL]; rw [h z List.mem_cons_self, sumL_zero (fun y hy => h y (List.mem_cons_of_mem _ hy))]
theorem sumL_ind {g : Nat → Nat} {a : Int} : ∀ {L : List Int}, (∀ z ∈ L, g z.toNat = if z = a then 1 else 0) → sumL g L = L.count a
  | [], _ => rfl
  | z :: L, h => by
    simp only [sumL]; rw [h z List.mem_cons_self, sumL_ind (fun y hy => h y (List.mem_cons_of_mem _ hy)), List.count_cons]
    simp only [beq_iff_eq]; omega
theorem count_le_occ {z : Int} : ∀ {Ls : List (List Int)} {L : List Int}, L ∈ Ls → L.count z ≤ occ Ls z
  | M :: Ls, L, h => by
    simp only [occ]
    rcases List.mem_cons.1 h with rfl | h
    · omega
    · have := count_le_occ (z := z) h; omega
theorem least_mem {L : List Int} {z : Nat} (h : (z : Int) ∈ L) : ∃ a : Nat, (a : Int) ∈ L ∧ ∀ i : Nat, i < a → (i : Int) ∉ L := by
  induction z using Nat.strongRecOn with
  | ind z ih =>
    by_cases hc : ∃ i : Nat, i < z ∧ (i : Int) ∈ L
    · obtain ⟨i, h1, h2⟩ := hc; exact ih i h1 h2
    · exact ⟨z, h, fun i h1 h2 => hc ⟨i, h1, h2⟩⟩
theorem chain_lea {L : List Int} (ha : Adj T L) (h0 : ∀ z ∈ L, 0 ≤ z ∧ z < n) (he : T (lastI L).toNat = -1) : ∀ z ∈ L, leaB T z.toNat = false := fun z hz => by
  cases e : leaB T z.toNat with
  | false => rfl
  | true =>
    have hl := (leaB_iff.1 e).1
    obtain ⟨k, hk⟩ := adj_to_last ha (fun z hz => (h0 z hz).1) z hz
    have hne : L ≠ [] := fun e => by rw [e] at hz; cases hz
    have h1 := h0 _ (lastI_mem hne)
    have h2 : Rch T z.toNat (lastI L).toNat := ⟨k, by rw [hk]; omega⟩
    have h3 := (hl.of h2).pos 1
    rw [itF_succ, if_pos (it0 T (lastI L).toNat)] at h3
    have h3 : 0 ≤ T ((((lastI L).toNat : Nat) : Int)).toNat := h3
    rw [Int.toNat_natCast, he] at h3; omega
theorem cycle_lea {L : List Int} (hL : L ≠ []) (ha : Adj T L) (h0 : ∀ z ∈ L, 0 ≤ z ∧ z < n) (he : T (lastI L).toNat = headI L) (hn : ∀ z, L.count z ≤ 1) : sumL (fun j => if leaB T j = true then 1 else 0) L = 1 := by
  have hnext : ∀ z ∈ L, T z.toNat ∈ L := fun z hz => by
    by_cases e : z = lastI L
    · rw [e, he]; exact headI_mem hL
    · exact adj_next ha z hz e
  have hin : ∀ z ∈ L, ∀ k, itF T z.toNat k ∈ L := fun z hz k => by
    induction k with
    | zero => have := h0 z hz; rw [show itF T z.toNat 0 = z by simp [itF]; omega]; exact hz
    | succ k ih => rw [itF_succ, if_pos (h0 _ ih).1]; exact hnext _ ih
  have hlast := h0 _ (lastI_mem hL)
  have hhead := h0 _ (headI_mem hL)
  have hgo : ∀ y ∈ L, ∀ z ∈ L, ∃ k, 1 ≤ k ∧ itF T y.toNat k = (z.toNat : Int) := fun y hy z hz => by
    obtain ⟨a, ha'⟩ := adj_to_last ha (fun z hz => (h0 z hz).1) y hy
    obtain ⟨b, hb⟩ := adj_from_head ha (fun z hz => (h0 z hz).1) z hz
    have h1 : itF T y.toNat a = (((lastI L).toNat : Nat) : Int) := by rw [ha']; omega
    have h2 : itF T (lastI L).toNat 1 = (((headI L).toNat : Nat) : Int) := by
      rw [itF_succ, if_pos (it0 T (lastI L).toNat)]
      show T ((((lastI L).toNat : Nat) : Int)).toNat = _
      rw [Int.toNat_natCast, he]; omega
    exact ⟨a + (1 + b), by omega, by rw [it_via h1, it_via h2, hb]; have := h0 z hz; omega⟩
  obtain ⟨c, hc⟩ := Int.eq_ofNat_of_zero_le hhead.1
  obtain ⟨a, ha1, ha2⟩ := least_mem (L := L) (z := c) (by rw [← hc]; exact headI_mem hL)
  rw [sumL_ind (a := (a : Int))]
  · have := hn (a : Int); have := List.count_pos_iff.2 ha1; omega
  · intro z hz
    obtain ⟨x, hx⟩ := Int.eq_ofNat_of_zero_le (h0 z hz).1
    subst hx
    rw [Int.toNat_natCast]
    by_cases e : x = a
    · subst e
      rw [if_pos rfl, if_pos]
      refine leaB_iff.2 ⟨?_, fun i hi hr => ?_⟩
      · obtain ⟨k, h1, h2⟩ := hgo _ hz _ hz
        rw [Int.toNat_natCast] at h2; exact ⟨k, h1, h2⟩
      · obtain ⟨k, hk⟩ := hr
        have := hin _ hz k
        rw [Int.toNat_natCast, hk] at this
        exact ha2 i hi this
    · rw [if_neg (show ¬ (x : Int) = (a : Int) by omega), if_neg]
      intro hl
      have hl := (leaB_iff.1 hl).2
      obtain ⟨k, _, h2⟩ := hgo _ hz _ ha1
      rw [Int.toNat_natCast, Int.toNat_natCast] at h2
      have hax : ¬ x < a := fun h => ha2 x h hz
      exact hl a (by omega) ⟨k, h2⟩
theorem und0 (n : Nat) : Und n 0 (fun _ => -1) := ⟨fun j h => by simp at h, fun j => .inl rfl, fun i j h => absurd rfl h⟩
/-- the chart of some ways -/
theorem wc_chart {Cs Ys : List (List Int)} (hn1 : 1 ≤ n) (hn6 : n ≤ 6) (ho : okSS n 0 (Cs ++ Ys) = true) (hm : orSS 0 (Cs ++ Ys) = 2 ^ n - 1) :
    CH n (lnSS Cs.length (fun _ => -1) (Cs ++ Ys)) ∧ cnt (fun j => decide (lnSS Cs.length (fun _ => -1) (Cs ++ Ys) j ≠ -1)) n + Cs.length = n ∧
    (∀ m, RangeM n (lnSS Cs.length (fun _ => -1) (Cs ++ Ys)) m → (chL (lnSS Cs.length (fun _ => -1) (Cs ++ Ys)) n m n).length = Cs.length ∧
      (cyL (lnSS Cs.length (fun _ => -1) (Cs ++ Ys)) n (orSS 0 (chL (lnSS Cs.length (fun _ => -1) (Cs ++ Ys)) n m n)) n).length = Ys.length) := by
  have hA := all_led Cs Ys 0 (fun _ => -1) (und0 n) ho
  rw [hm] at hA
  generalize lnSS Cs.length (fun _ => -1) (Cs ++ Ys) = T at hA
  have hb : ∀ j, (2 ^ n - 1).testBit j = decide (j < n) := fun j => Nat.testBit_two_pow_sub_one n j
  have hocc : ∀ j : Nat, j < n → occ (Cs ++ Ys) (j : Int) = 1 := fun j hj => hA.occ_ j (by rw [hb, decide_eq_true hj]) (Nat.zero_testBit _)
  have hF : CH n T := ⟨hn1, hn6, fun j hj => by
    rcases hA.und.val j with h | h
    · exact .inl h
    · have := hA.und.lt _ h.2.2; exact .inr ⟨h.2.1, by omega⟩, fun i j _ _ h e => hA.und.inj i j h e⟩
  have hs : cnt (fun j => decide (T j = -1)) n = Cs.length := by
    have h1 := hA.snk_
    have h2 : snk (2 ^ n - 1) T n = cnt (fun j => decide (T j = -1)) n := cnt_congr (fun j hj => by rw [hb, decide_eq_true hj, Bool.true_and])
    have h3 : snk 0 (fun _ => -1) n = 0 := by
      unfold snk
      rw [cnt_congr (Q := fun _ => false) (fun j _ => by rw [Nat.zero_testBit, Bool.false_and])]
      have hc : ∀ m, cnt (fun _ => false) m = 0 := fun m => by
        induction m with
        | zero => rfl
        | succ m ih => rw [cnt_succ, ih]; rfl
      exact hc n
    omega
  refine ⟨hF, ?_, fun m hm => ⟨by rw [chL_total hF hm, hs], ?_⟩⟩
  · have h2 := cnt_not (fun j => decide (T j ≠ -1)) n
    have e2 : cnt (fun j => !decide (T j ≠ -1)) n = cnt (fun i => decide (T i = -1)) n := cnt_congr (fun j _ => by simp)
    omega
  · rw [cyL_count hF (chL_mask hF hm) n (Nat.le_refl _), ← sumP_cnt]
    have h1 : sumP (fun j => if leaB T j = true then 1 else 0) n = sumSS (fun j => if leaB T j = true then 1 else 0) (Cs ++ Ys) := by
      rw [sumSS_occ _ (n := n)]
      · exact sumP_congr (fun j hj => by rw [hocc j hj, Nat.mul_one])
      · intro L hL
        rcases List.mem_append.1 hL with h | h
        · exact (hA.cs L h).2.2.2
        · exact (hA.ys L h).2.2.2
    rw [h1, sumSS_append]
    have h2 : ∀ Ls : List (List Int), (∀ L ∈ Ls, L ∈ Cs) → sumSS (fun j => if leaB T j = true then 1 else 0) Ls = 0 := fun Ls => by
      induction Ls with
      | nil => intro _; rfl
      | cons L Ls ih =>
        intro h
        obtain ⟨a1, a2, a3, a4⟩ := hA.cs L (h L List.mem_cons_self)
        simp only [sumSS]
        rw [ih (fun M hM => h M (List.mem_cons_of_mem _ hM)), sumL_zero (fun z hz => by rw [chain_lea a2 a4 a3 z hz]; rfl)]
    have h3 : ∀ Ls : List (List Int), (∀ L ∈ Ls, L ∈ Ys) → sumSS (fun j => if leaB T j = true then 1 else 0) Ls = Ls.length := fun Ls => by
      induction Ls with
      | nil => intro _; rfl
      | cons L Ls ih =>
        intro h
        have hLY := h L List.mem_cons_self
        obtain ⟨a1, a2, a3, a4⟩ := hA.ys L hLY
        simp only [sumSS, List.length_cons]
        rw [ih (fun M hM => h M (List.mem_cons_of_mem _ hM)), cycle_lea a1 a2 a4 a3 (fun z => ?_)]
        · omega
        · by_cases hz : z ∈ L
          · obtain ⟨x, hx⟩ := Int.eq_ofNat_of_zero_le (a4 z hz).1
            have hzn := (a4 z hz).2
            subst hx
            have := hocc x (by omega)
            have := count_le_occ (z := (x : Int)) (List.mem_append_right Cs hLY)
            omega
          · rw [List.count_eq_zero.2 hz]; omega
    rw [h2 Cs (fun _ h => h), h3 Ys (fun _ h => h), Nat.zero_add]
end
end Go.Proofs.Ytckppfgooflooaa
