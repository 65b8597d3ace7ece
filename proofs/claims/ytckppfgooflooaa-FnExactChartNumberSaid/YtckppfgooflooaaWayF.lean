/-
  The chart of some ways has as many ways, and one point less in its domain for each chain; no program.
-/
import Derived.Test.YtckppfgooflooaaWayE
namespace Go.Proofs.Ytckppfgooflooaa
set_option maxRecDepth 100000

/-- a chart under way: what is met is the mask m -/
structure Und (n m : Nat) (T : Nat → Int) : Prop where
  lt : ∀ j, m.testBit j = true → j < n
  val : ∀ j, T j = -1 ∨ (m.testBit j = true ∧ 0 ≤ T j ∧ m.testBit (T j).toNat = true)
  inj : ∀ i j, T i ≠ -1 → T i = T j → i = j
/-- points met that lead nowhere -/
def snk (m : Nat) (T : Nat → Int) (n : Nat) : Nat := cnt (fun j => m.testBit j && decide (T j = -1)) n
theorem cnt_ins {P Q : Nat → Bool} {a : Nat} : ∀ {k : Nat}, a < k → P a = false → Q a = true → (∀ j, j ≠ a → P j = Q j) → cnt Q k = cnt P k + 1
  | 0, h, _, _, _ => by omega
  | k + 1, h, hp, hq, he => by
    rw [cnt_succ, cnt_succ]
    by_cases e : a = k
    · subst e
      rw [cnt_congr (P := Q) (Q := P) (fun j hj => (he j (by omega)).symm), hp, hq]; rfl
    · rw [cnt_ins (by omega) hp hq he, he k (fun h => e h.symm)]; omega
theorem bit_new (m j z : Nat) : (m ||| 1 <<< z).testBit j = (m.testBit j || decide (z = j)) := by rw [Nat.testBit_or, Nat.one_shiftLeft, Nat.testBit_two_pow]

section
variable {n m : Nat} {T : Nat → Int}
/-- a point is met -/
theorem Und.meet (h : Und n m T) {z : Nat} (hz : z < n) (hb : m.testBit z = false) : Und n (m ||| 1 <<< z) T ∧ T z = -1 ∧ (∀ j, T j ≠ (z : Int)) ∧ snk (m ||| 1 <<< z) T n = snk m T n + 1 := by
  have h1 : T z = -1 := (h.val z).resolve_right (fun h' => by rw [h'.1] at hb; cases hb)
  have h2 : ∀ j, T j ≠ (z : Int) := fun j e => by
    rcases h.val j with h' | h'
    · omega
    · rw [e, Int.toNat_natCast, hb] at h'; exact absurd h'.2.2 (by simp)
  refine ⟨⟨fun j hj => ?_, fun j => ?_, h.inj⟩, h1, h2, ?_⟩
  · rw [bit_new, Bool.or_eq_true, decide_eq_true_eq] at hj
    rcases hj with hj | rfl
    · exact h.lt j hj
    · exact hz
  · rcases h.val j with h' | h'
    · exact .inl h'
    · exact .inr ⟨by rw [bit_new, h'.1]; rfl, h'.2.1, by rw [bit_new, h'.2.2]; rfl⟩
  · unfold snk
    refine cnt_ins hz (by rw [hb]; rfl) (by rw [bit_new, h1]; simp) (fun j hj => ?_)
    have e0 : decide (z = j) = false := decide_eq_false (fun e => hj e.symm)
    rw [bit_new, e0, Bool.or_false]
/-- a sink is led to a point that nothing leads to -/
theorem Und.link (h : Und n m T) {y z : Nat} (hy : m.testBit y = true) (hz : m.testBit z = true) (hs : T y = -1) (hf : ∀ j, T j ≠ (z : Int)) : Und n m (upI T y z) ∧ snk m T n = snk m (upI T y z) n + 1 ∧ ∀ j, j ≠ y → upI T y z j = T j := by
  have hne : ∀ j, j ≠ y → upI T y z j = T j := fun j hj => by unfold upI; rw [if_neg (by omega)]
  have hat : upI T y z y = (z : Int) := by unfold upI; rw [if_pos rfl]
  refine ⟨⟨h.lt, fun j => ?_, fun i j hi he => ?_⟩, ?_, hne⟩
  · by_cases e : j = y
    · subst e; rw [hat]; exact .inr ⟨hy, by omega, by rw [Int.toNat_natCast]; exact hz⟩
    · rw [hne j e]; exact h.val j
  · by_cases e : i = y
    · subst e
      rw [hat] at he
      by_cases e' : j = i
      · exact e'.symm
      · rw [hne j e'] at he; exact absurd he.symm (hf j)
    · rw [hne i e] at hi he
      by_cases e' : j = y
      · subst e'; rw [hat] at he; exact absurd he (hf i)
      · rw [hne j e'] at he; exact h.inj i j hi he
  · unfold snk
    refine cnt_ins (h.lt y hy) (by rw [hat, hy]; simp) (by rw [hs, hy]; simp) (fun j hj => by rw [hne j hj])

/-- what a list that was led along has -/
structure Led (n m : Nat) (T : Nat → Int) (L : List Int) (m' : Nat) (T' : Nat → Int) : Prop where
  und : Und n m' T'
  old : ∀ j, m.testBit j = true → m'.testBit j = true ∧ T' j = T j
  new : ∀ j : Nat, (j : Int) ∈ L → m'.testBit j = true ∧ m.testBit j = false
  adj : Adj T' L
  dom : ∀ z ∈ L, 0 ≤ z ∧ z < n
theorem adj_snoc {F : Nat → Int} {z : Int} : ∀ {L : List Int}, Adj F L → (L ≠ [] → 0 ≤ lastI L ∧ F (lastI L).toNat = z) → Adj F (L ++ [z])
  | [], _, _ => trivial
  | [y], _, h => by have := h (by simp); simp [lastI] at this; exact ⟨this.1, this.2, trivial⟩
  | x :: y :: L, ha, h => by
    have hl : lastI (x :: y :: L) = lastI (y :: L) := by simp [lastI]
    rw [hl] at h
    exact ⟨ha.1, ha.2.1, adj_snoc (L := y :: L) ha.2.2 (fun _ => h (by simp))⟩
theorem adj_ext {F G : Nat → Int} : ∀ {L : List Int}, Adj F L → (∀ y ∈ L, y ≠ lastI L → F y.toNat = G y.toNat) → L.Nodup → Adj G L
  | [], _, _, _ => trivial
  | [y], _, _, _ => trivial
  | x :: y :: L, ha, h, hn => by
    have hl : lastI (x :: y :: L) = lastI (y :: L) := by simp [lastI]
    rw [List.nodup_cons] at hn
    have hx : x ≠ lastI (x :: y :: L) := fun e => by
      rw [hl] at e
      refine hn.1 ?_
      rw [e]; unfold lastI
      rw [List.getLast?_eq_some_getLast (by simp)]
      exact List.getLast_mem _
    refine ⟨ha.1, by rw [← h x List.mem_cons_self hx]; exact ha.2.1, adj_ext (L := y :: L) ha.2.2 (fun z hz hne => h z (List.mem_cons_of_mem _ hz) (by rw [hl]; exact hne)) hn.2⟩
theorem lastI_mem {L : List Int} (h : L ≠ []) : lastI L ∈ L := by
  unfold lastI
  rw [List.getLast?_eq_some_getLast h]
  exact List.getLast_mem _
theorem headI_mem : ∀ {L : List Int}, L ≠ [] → headI L ∈ L
  | [], h => absurd rfl h
  | x :: L, _ => by simp [headI]
theorem okL_nodup : ∀ (L : List Int) (m : Nat), okL n m L = true → L.Nodup ∧ (∀ z ∈ L, 0 ≤ z ∧ z < n ∧ m.testBit z.toNat = false)
  | [], _, _ => ⟨List.nodup_nil, fun z h => by cases h⟩
  | z :: L, m, h => by
    unfold okL at h
    rw [Bool.and_eq_true] at h
    have hz := of_decide_eq_true h.1
    have ih := okL_nodup L _ h.2
    refine ⟨List.nodup_cons.2 ⟨fun hm => ?_, ih.1⟩, fun y hy => ?_⟩
    · have := (ih.2 z hm).2.2; rw [bit_new] at this; simp at this
    · rcases List.mem_cons.1 hy with rfl | hy
      · exact hz
      · have := ih.2 y hy
        refine ⟨this.1, this.2.1, ?_⟩
        have hb := this.2.2; rw [bit_new, Bool.or_eq_false_iff] at hb; exact hb.1
theorem led_chain (h : Und n m T) {L : List Int} (hL : L ≠ []) (ho : okL n m L = true) : Led n m T L (orL m L) (lnk T L) ∧ lnk T L (lastI L).toNat = -1 ∧ (∀ j, lnk T L j ≠ headI L) ∧ snk (orL m L) (lnk T L) n = snk m T n + 1 := by
  have gen : ∀ k (L : List Int), L.length = k + 1 → okL n m L = true → Led n m T L (orL m L) (lnk T L) ∧ lnk T L (lastI L).toNat = -1 ∧ (∀ j, lnk T L j ≠ headI L) ∧ snk (orL m L) (lnk T L) n = snk m T n + 1 := fun k => by
    induction k with
    | zero =>
      intro L hl ho
      obtain ⟨z, rfl⟩ : ∃ z, L = [z] := by
        match L, hl with
        | [z], _ => exact ⟨z, rfl⟩
      have hz := (okL_nodup _ _ ho).2 z List.mem_cons_self
      obtain ⟨y, rfl⟩ := Int.eq_ofNat_of_zero_le hz.1
      rw [Int.toNat_natCast] at hz
      have hm := h.meet (z := y) (by omega) hz.2.2
      refine ⟨⟨hm.1, fun j hj => ⟨by show (m ||| 1 <<< ((y : Int)).toNat).testBit j = true; rw [bit_new, hj]; rfl, rfl⟩, fun j hj => ?_, trivial, fun z hz' => ?_⟩, by simpa [lastI, lnk] using hm.2.1, by simpa [headI, lnk] using hm.2.2.1, hm.2.2.2⟩
      · have : j = y := by have := List.mem_singleton.1 hj; omega
        subst this
        exact ⟨by show (m ||| 1 <<< ((j : Int)).toNat).testBit j = true; rw [bit_new]; simp, hz.2.2⟩
      · rw [List.mem_singleton.1 hz']; omega
    | succ k ih =>
      intro L hl ho
      have hd : L = L.dropLast ++ [lastI L] := by
        have hne : L ≠ [] := fun e => by rw [e] at hl; simp at hl
        conv => lhs; rw [← List.dropLast_concat_getLast hne]
        unfold lastI; rw [List.getLast?_eq_some_getLast hne]; rfl
      generalize lastI L = z at hd
      generalize hL0 : L.dropLast = L0 at hd
      have hl0 : L0.length = k + 1 := by rw [← hL0, List.length_dropLast]; omega
      have hne0 : L0 ≠ [] := fun e => by rw [e] at hl0; simp at hl0
      subst hd
      rw [okL_snoc, Bool.and_eq_true] at ho
      have hz := of_decide_eq_true ho.2
      obtain ⟨y, rfl⟩ := Int.eq_ofNat_of_zero_le hz.1
      rw [Int.toNat_natCast] at hz
      obtain ⟨a1, a2, a3, a4⟩ := ih L0 hl0 ho.1
      have hlast := a1.dom _ (lastI_mem hne0)
      obtain ⟨x, hx⟩ := Int.eq_ofNat_of_zero_le hlast.1
      have hxb := (a1.new x (by rw [← hx]; exact lastI_mem hne0)).1
      rw [hx, Int.toNat_natCast] at a2
      obtain ⟨b1, b2, b3, b4⟩ := a1.und.meet (z := y) (by omega) hz.2.2
      have hxy : x ≠ y := fun e => by subst e; rw [hxb] at hz; exact absurd hz.2.2 (by simp)
      have hbx : (orL m L0 ||| 1 <<< y).testBit x = true := by rw [bit_new, hxb]; rfl
      have hby : (orL m L0 ||| 1 <<< y).testBit y = true := by rw [bit_new]; simp
      obtain ⟨c1, c2, c3⟩ := b1.link (y := x) (z := y) hbx hby a2 b3
      have hme : orL m (L0 ++ [(y : Int)]) = orL m L0 ||| 1 <<< y := by rw [orL_snoc, Int.toNat_natCast]
      have hTe : lnk T (L0 ++ [(y : Int)]) = upI (lnk T L0) x y := by rw [lnk_snoc _ _ _ hne0, hx]
      have hhe : headI (L0 ++ [(y : Int)]) = headI L0 := by
        cases L0 with
        | nil => exact absurd rfl hne0
        | cons a b => simp [headI]
      have hnd := okL_nodup L0 m ho.1
      rw [hme, hTe, hhe, Int.toNat_natCast]
      refine ⟨⟨c1, fun j hj => ?_, fun j hj => ?_, adj_snoc (adj_ext a1.adj (fun w hw hne => ?_) hnd.1) (fun _ => ⟨by omega, ?_⟩), fun w hw => ?_⟩, ?_, fun j => ?_, ?_⟩
      · have hxm : j ≠ x := fun e => by subst e; rw [(a1.new j (by rw [← hx]; exact lastI_mem hne0)).2] at hj; cases hj
        exact ⟨by rw [bit_new, (a1.old j hj).1]; rfl, by rw [c3 j hxm]; exact (a1.old j hj).2⟩
      · rcases List.mem_append.1 hj with hj | hj
        · exact ⟨by rw [bit_new, (a1.new j hj).1]; rfl, (a1.new j hj).2⟩
        · have : j = y := by have := List.mem_singleton.1 hj; omega
          subst this
          refine ⟨hby, ?_⟩
          cases e : m.testBit j with
          | false => rfl
          | true => rw [(a1.old j e).1] at hz; exact absurd hz.2.2 (by simp)
      · have hw0 := (hnd.2 w hw).1
        rw [c3 w.toNat (fun e => hne (by rw [hx]; omega))]
      · rw [hx, Int.toNat_natCast]; unfold upI; rw [if_pos rfl]
      · rcases List.mem_append.1 hw with hw | hw
        · exact a1.dom w hw
        · rw [List.mem_singleton.1 hw]; omega
      · rw [c3 y (fun e => hxy e.symm)]; exact b2
      · by_cases e : j = x
        · subst e
          have : upI (lnk T L0) (j : Int) y j = (y : Int) := by unfold upI; rw [if_pos rfl]
          rw [this]
          intro e'
          have := a1.new y (by rw [e']; exact headI_mem hne0)
          rw [this.1] at hz; exact absurd hz.2.2 (by simp)
        · rw [c3 j e]; exact a3 j
      · omega
  obtain ⟨k, hk⟩ : ∃ k, L.length = k + 1 := ⟨L.length - 1, by have := List.length_pos_iff.2 hL; omega⟩
  exact gen k L hk ho
theorem led_cycle (h : Und n m T) {L : List Int} (hL : L ≠ []) (ho : okL n m L = true) : Led n m T L (orL m L) (cls T L) ∧ cls T L (lastI L).toNat = headI L ∧ snk (orL m L) (cls T L) n = snk m T n := by
  obtain ⟨a1, a2, a3, a4⟩ := led_chain h hL ho
  have hlast := a1.dom _ (lastI_mem hL)
  have hhead := a1.dom _ (headI_mem hL)
  obtain ⟨x, hx⟩ := Int.eq_ofNat_of_zero_le hlast.1
  obtain ⟨y, hy⟩ := Int.eq_ofNat_of_zero_le hhead.1
  have hxn := a1.new x (by rw [← hx]; exact lastI_mem hL)
  have hyn := a1.new y (by rw [← hy]; exact headI_mem hL)
  rw [hx, Int.toNat_natCast] at a2
  rw [hy] at a3
  obtain ⟨c1, c2, c3⟩ := a1.und.link (y := x) (z := y) hxn.1 hyn.1 a2 a3
  have hnd := okL_nodup L m ho
  unfold cls
  rw [hx, hy, Int.toNat_natCast]
  refine ⟨⟨c1, fun j hj => ?_, a1.new, adj_ext a1.adj (fun w hw hne => ?_) hnd.1, a1.dom⟩, by unfold upI; rw [if_pos rfl], by omega⟩
  · have hxm : j ≠ x := fun e => by subst e; rw [hxn.2] at hj; cases hj
    exact ⟨(a1.old j hj).1, by rw [c3 j hxm]; exact (a1.old j hj).2⟩
  · have hw0 := (hnd.2 w hw).1
    rw [c3 w.toNat (fun e => hne (by rw [hx]; omega))]

/-- all lists led along -/
structure All (n m : Nat) (T : Nat → Int) (Cs Ys : List (List Int)) (m' : Nat) (T' : Nat → Int) : Prop where
  und : Und n m' T'
  old : ∀ j, m.testBit j = true → m'.testBit j = true ∧ T' j = T j
  cs : ∀ L ∈ Cs, L ≠ [] ∧ Adj T' L ∧ T' (lastI L).toNat = -1 ∧ (∀ z ∈ L, 0 ≤ z ∧ z < n)
  ys : ∀ L ∈ Ys, L ≠ [] ∧ Adj T' L ∧ T' (lastI L).toNat = headI L ∧ (∀ z ∈ L, 0 ≤ z ∧ z < n)
  snk_ : snk m' T' n = snk m T n + Cs.length
  occ_ : ∀ j : Nat, m'.testBit j = true → m.testBit j = false → occ (Cs ++ Ys) (j : Int) = 1
  out : ∀ j : Nat, m.testBit j = true → occ (Cs ++ Ys) (j : Int) = 0
theorem adj_keep {F G : Nat → Int} : ∀ {L : List Int}, Adj F L → (∀ y ∈ L, F y.toNat = G y.toNat) → Adj G L
  | [], _, _ => trivial
  | [y], _, _ => trivial
  | x :: y :: L, ha, h => ⟨ha.1, by rw [← h x List.mem_cons_self]; exact ha.2.1, adj_keep (L := y :: L) ha.2.2 (fun z hz => h z (List.mem_cons_of_mem _ hz))⟩
theorem all_led : ∀ (Cs Ys : List (List Int)) (m : Nat) (T : Nat → Int), Und n m T → okSS n m (Cs ++ Ys) = true → All n m T Cs Ys (orSS m (Cs ++ Ys)) (lnSS Cs.length T (Cs ++ Ys))
  | [], [], m, T, h, _ => ⟨h, fun j hj => ⟨hj, rfl⟩, fun L hL => (by cases hL), fun L hL => (by cases hL), rfl, fun j h1 h2 => (by have h1 : m.testBit j = true := h1; rw [h1] at h2; cases h2), fun j _ => rfl⟩
  | [], L :: Ys, m, T, h, ho => by
    have ho : (decide (L ≠ []) && okL n m L && okSS n (orL m L) Ys) = true := ho
    rw [Bool.and_eq_true, Bool.and_eq_true] at ho
    have hL := of_decide_eq_true ho.1.1
    obtain ⟨a1, a2, a3⟩ := led_cycle h hL ho.1.2
    have ih := all_led [] Ys (orL m L) (cls T L) a1.und ho.2
    have hat : ∀ z ∈ L, lnSS 0 (cls T L) Ys z.toNat = cls T L z.toNat := fun z hz => by
      have hz0 := a1.dom z hz
      exact (ih.old z.toNat (a1.new z.toNat (by rw [Int.toNat_of_nonneg hz0.1]; exact hz)).1).2
    have hn := (okL_nodup L m ho.1.2).1
    refine ⟨ih.und, fun j hj => ⟨(ih.old j (a1.old j hj).1).1, ((ih.old j (a1.old j hj).1).2).trans (a1.old j hj).2⟩, fun M hM => (by cases hM), fun M hM => ?_, ?_, fun j h1 h2 => ?_, fun j hj => ?_⟩
    · rcases List.mem_cons.1 hM with rfl | hM
      · exact ⟨hL, adj_keep a1.adj (fun y hy => (hat y hy).symm), (hat _ (lastI_mem hL)).trans a2, a1.dom⟩
      · exact ih.ys M hM
    · have := ih.snk_; simp only [List.length_nil, Nat.add_zero] at this ⊢; exact this.trans a3
    · show L.count (j : Int) + occ Ys (j : Int) = 1
      by_cases hb : (orL m L).testBit j = true
      · have h3 := ih.out j hb
        have h4 := ((orL_bit L m (fun z hz => (a1.dom z hz).1)).1 hb).resolve_left (by rw [h2]; simp)
        rw [count_in hn h4]; have h3 : occ Ys (j : Int) = 0 := h3; omega
      · have hb' : (orL m L).testBit j = false := by simpa using hb
        have h3 : occ Ys (j : Int) = 1 := ih.occ_ j h1 hb'
        rw [List.count_eq_zero.2 (fun hm => hb (a1.new j hm).1), h3]
    · show L.count (j : Int) + occ Ys (j : Int) = 0
      have h3 : occ Ys (j : Int) = 0 := ih.out j (a1.old j hj).1
      rw [List.count_eq_zero.2 (fun hm => by rw [(a1.new j hm).2] at hj; cases hj), h3]
  | L :: Cs, Ys, m, T, h, ho => by
    have ho : (decide (L ≠ []) && okL n m L && okSS n (orL m L) (Cs ++ Ys)) = true := ho
    rw [Bool.and_eq_true, Bool.and_eq_true] at ho
    have hL := of_decide_eq_true ho.1.1
    obtain ⟨a1, a2, _, a3⟩ := led_chain h hL ho.1.2
    have ih := all_led Cs Ys (orL m L) (lnk T L) a1.und ho.2
    have hat : ∀ z ∈ L, lnSS Cs.length (lnk T L) (Cs ++ Ys) z.toNat = lnk T L z.toNat := fun z hz => by
      have hz0 := a1.dom z hz
      exact (ih.old z.toNat (a1.new z.toNat (by rw [Int.toNat_of_nonneg hz0.1]; exact hz)).1).2
    have hn := (okL_nodup L m ho.1.2).1
    refine ⟨ih.und, fun j hj => ⟨(ih.old j (a1.old j hj).1).1, ((ih.old j (a1.old j hj).1).2).trans (a1.old j hj).2⟩, fun M hM => ?_, ih.ys, ?_, fun j h1 h2 => ?_, fun j hj => ?_⟩
    · rcases List.mem_cons.1 hM with rfl | hM
      · exact ⟨hL, adj_keep a1.adj (fun y hy => (hat y hy).symm), (hat _ (lastI_mem hL)).trans a2, a1.dom⟩
      · exact ih.cs M hM
    · have := ih.snk_; simp only [List.length_cons]; exact this.trans (by rw [a3]; omega)
    · show L.count (j : Int) + occ (Cs ++ Ys) (j : Int) = 1
      by_cases hb : (orL m L).testBit j = true
      · have h3 := ih.out j hb
        have h4 := ((orL_bit L m (fun z hz => (a1.dom z hz).1)).1 hb).resolve_left (by rw [h2]; simp)
        rw [count_in hn h4]; omega
      · have hb' : (orL m L).testBit j = false := by simpa using hb
        have h3 := ih.occ_ j h1 hb'
        rw [List.count_eq_zero.2 (fun hm => hb (a1.new j hm).1), h3]
    · show L.count (j : Int) + occ (Cs ++ Ys) (j : Int) = 0
      have h3 := ih.out j (a1.old j hj).1
      rw [List.count_eq_zero.2 (fun hm => by rw [(a1.new j hm).2] at hj; cases hj), h3]
end
end Go.Proofs.Ytckppfgooflooaa
