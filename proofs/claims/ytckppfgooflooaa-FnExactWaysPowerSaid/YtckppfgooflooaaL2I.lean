/-
  spec: the chart of some ways.
-/
import Derived.Test.YtckppfgooflooaaL2H
import Derived.StillTailTactics
namespace Go.Proofs.Ytckppfgooflooaa
set_option maxRecDepth 100000
open Go.RowKit

theorem okL_app (n : Nat) (M : List Int) : ∀ (L : List Int) (m : Nat), okL n m (L ++ M) = (okL n m L && okL n (orL m L) M)
  | [], m => by simp [okL, orL]
  | y :: L, m => by simp only [List.cons_append, okL, okL_app n M L, Bool.and_assoc]; rfl
theorem okSS_app (n : Nat) (Ms : List (List Int)) : ∀ (Ls : List (List Int)) (m : Nat), okSS n m (Ls ++ Ms) = (okSS n m Ls && okSS n (orSS m Ls) Ms)
  | [], m => by simp [okSS, orSS]
  | L :: Ls, m => by simp only [List.cons_append, okSS, okSS_app n Ms Ls, Bool.and_assoc]; rfl
theorem okSS_at {n : Nat} {Ls : List (List Int)} {i : Nat} (hi : i < Ls.length) (h : (decide (Ls[i]?.getD [] ≠ []) && okL n (orSS 0 (Ls.take i)) (Ls[i]?.getD [])) = false) : okSS n 0 Ls = false := by
  have e : Ls = Ls.take (i + 1) ++ Ls.drop (i + 1) := (List.take_append_drop _ _).symm
  rw [e, okSS_app, take_snoc_list Ls hi, okSS_snoc, h]; simp
theorem okL_at {n m : Nat} {L : List Int} {k : Nat} (hk : k < L.length) (h : decide (0 ≤ L[k]?.getD 0 ∧ L[k]?.getD 0 < n ∧ (orL m (L.take k)).testBit (L[k]?.getD 0).toNat = false) = false) : okL n m L = false := by
  have e : L = L.take (k + 1) ++ L.drop (k + 1) := (List.take_append_drop _ _).symm
  rw [e, okL_app, take_snoc_get L hk, okL_snoc, h]; simp
theorem lastI_take {L : List Int} {p : Nat} (hp : p < L.length) : lastI (L.take (p + 1)) = L[p]?.getD 0 := by rw [take_snoc_get L hp]; simp [lastI]
theorem LT_up {n : Nat} (T : Nat → Int) {y : Nat} (hy : y < n) (z : Int) : (LT n T).set y z = LT n (upI T y z) := by
  rw [LT_set hy]
  refine LT_congr (fun j _ => ?_)
  unfold upI
  by_cases e : j = y
  · subst e; simp
  · have e2 : ¬ (j : Int) = (y : Int) := by omega
    simp [e, e2]
theorem keep_other {w : World} {base base' size n N cp g y : Nat} {e e' : TypeId} {v u : Value} {xs ys : List Value} (h : w.ownsRow base e size v n xs) (h' : w.ownsRow base' e' 1 (.slice (some ⟨g, 0, none⟩) N cp) N ys) (hne : e ≠ e') :
    (w.setCell ⟨g, y, none⟩ u).ownsRow base e size v n xs := by
  refine own_same h fun q hq => Below.heap_setCell _ _ _ _ (fun e => ?_)
  have e : q = g := e
  subst e
  rcases h'.2 with ⟨h1, _⟩ | ⟨g', cap, cur, h1, _, hh, _⟩
  · cases h1
  · injection h1 with h1 h2 h3
    injection h1 with h1
    injection h1 with h1 h2 h3
    subst h1
    exact own_blk_ne h hh hne hq
theorem ivs_set {L : List Int} {y : Nat} {z : Int} : (ivs L).set y (.int .i64 z) = ivs (L.set y z) := by unfold ivs; rw [← List.map_set]
theorem okSS_ent {n : Nat} : ∀ {Ls : List (List Int)} {m : Nat}, okSS n m Ls = true → ∀ L ∈ Ls, ∀ z ∈ L, 0 ≤ z ∧ z < n
  | [], m, _, L, hL => by cases hL
  | M :: Ls, m, h, L, hL => by
    unfold okSS at h
    rw [Bool.and_eq_true, Bool.and_eq_true] at h
    rcases List.mem_cons.1 hL with rfl | hL
    · intro z hz; have := (okL_nodup L m h.1.2).2 z hz; exact ⟨this.1, this.2.1⟩
    · exact okSS_ent h.2 L hL
theorem wrap_small {p : Nat} (h : p ≤ 1048576) : wrap64 (p : Int) = (p : Int) ∧ IntKind.i64.wrap (p : Int) = (p : Int) := by
  have h1 : wrap64 (p : Int) = (p : Int) := by unfold wrap64; omega
  exact ⟨h1, by rw [IntKind.wrap_i64]; omega⟩
theorem lnSS_step {Ls : List (List Int)} {t c : Nat} {T : Nat → Int} (ht : t < Ls.length) : lnSS c T (Ls.take (t + 1)) = if t < c then lnk (lnSS c T (Ls.take t)) (Ls[t]?.getD []) else cls (lnSS c T (Ls.take t)) (Ls[t]?.getD []) := by
  rw [take_snoc_list Ls ht, lnSS_snoc, List.length_take, Nat.min_eq_left (by omega)]

set_option maxRecDepth 20000 in
set_option maxHeartbeats 1000000 in
theorem specWaysChart_any (n : Int) (ad bd : Addr) (n1 n2 c1 c2 : Nat) (Cs Ys : List (List Int)) (w : World) (h1 : RSS w (some ad) n1 Cs) (h2 : RSS w (some bd) n2 Ys) (hn1 : n1 ≤ 1048576) (hn2 : n2 ≤ 1048576) (hl1 : ∀ L ∈ Cs, L.length ≤ 1048576) (hl2 : ∀ L ∈ Ys, L.length ≤ 1048576) :
    Calls Try.prog 27 #[.int .i64 n, .slice (some ad) n1 c1, .slice (some bd) n2 c2] w fun e w' => ∃ v, e = .returned (.tuple #[v, .bool (wcB n Cs Ys)]) ∧ NewL w (wcL n Cs Ys) v w' := by
  cases hS : inB n 1 6
  · have HB : Hid (wcB n Cs Ys = false) := by show _ = _; simp [wcB, hS]
    have HL : Hid (wcL n Cs Ys = []) := by show _ = _; unfold wcL; rw [HB.out]; rfl
    have HS := Lib.hid hS
    clear hS
    go_enter Try.func27, Try.ntmps27
    go_wp2_with fail
    refine (l6In_any _ _ _ _).mono ?_
    rintro e w' ⟨rfl, rfl⟩
    rw [HS.out]
    go_wp2
    go_ret2
    refine ⟨_, by rw [HB.out]; rfl, ?_, (Below.refl _ _).alloc (Nat.le_refl _) _⟩
    rw [HL.out]; exact own_lit0 _
  have hk : 1 ≤ n ∧ n ≤ 6 := of_decide_eq_true hS
  obtain ⟨N, rfl⟩ := Int.eq_ofNat_of_zero_le (show 0 ≤ n by omega)
  have hN1 : 1 ≤ N := by omega
  have hN6 : N ≤ 6 := by omega
  have hwB : wcB (N : Int) Cs Ys = (okSS N 0 (Cs ++ Ys) && decide (orSS 0 (Cs ++ Ys) = 2 ^ N - 1)) := by unfold wcB; rw [hS, Bool.true_and]; rfl
  have HWB := Lib.hid hwB
  have HWL : Hid (wcB (N : Int) Cs Ys = true → wcL (N : Int) Cs Ys = LT N (lnSS n1 (fun _ => -1) (Cs ++ Ys))) := fun h => by unfold wcL; rw [if_pos h, h1.len]; rfl
  have HWN : Hid (wcB (N : Int) Cs Ys = false → wcL (N : Int) Cs Ys = []) := fun h => by unfold wcL; rw [h]; rfl
  have HS := Lib.hid hS
  clear hS hwB hk
  obtain ⟨i1, hj, hj0, hj1, hj2⟩ := info_parts info_partsS
  obtain ⟨l1, vs1, r1, in1⟩ := h1
  obtain ⟨l2, vs2, r2, in2⟩ := h2
  have hv1 : vs1.length = n1 := by have := r1.1; simpa using this
  have hv2 : vs2.length = n2 := by have := r2.1; simpa using this
  have HAL : Hid (∀ i L, (Cs ++ Ys)[i]? = some L → L.length ≤ 1048576 ∧ ∃ (Ai : Option Addr) (ci : Nat), (vs1 ++ vs2)[i]? = some (Value.slice Ai L.length ci) ∧ RI w Ai L.length L) := fun i L hi => by
    have hlen : L.length ≤ 1048576 := by
      rcases List.mem_append.1 (List.mem_of_getElem? hi) with h | h
      · exact hl1 L h
      · exact hl2 L h
    refine ⟨hlen, ?_⟩
    by_cases hc : i < Cs.length
    · rw [List.getElem?_append_left hc] at hi
      obtain ⟨Ai, ci, e, hr⟩ := in1 i L hi
      exact ⟨Ai, ci, by rw [List.getElem?_append_left (by omega)]; exact e, hr⟩
    · rw [List.getElem?_append_right (by omega)] at hi
      obtain ⟨Ai, ci, e, hr⟩ := in2 _ L hi
      exact ⟨Ai, ci, by rw [List.getElem?_append_right (by omega), hv1, ← l1]; exact e, hr⟩
  have hone1 : ∀ u ∈ vs1, u.oneCell' = true := fun u hu => by
    obtain ⟨i, hi, e⟩ := List.getElem_of_mem hu
    obtain ⟨Ai, ci, e', _⟩ := in1 i _ (List.getElem?_eq_getElem (show i < Cs.length by omega))
    rw [List.getElem?_eq_getElem hi, e] at e'
    injection e' with e'
    rw [e']; simp [Value.oneCell']
  have hone2 : ∀ u ∈ vs2, u.oneCell' = true := fun u hu => by
    obtain ⟨i, hi, e⟩ := List.getElem_of_mem hu
    obtain ⟨Ai, ci, e', _⟩ := in2 i _ (List.getElem?_eq_getElem (show i < Ys.length by omega))
    rw [List.getElem?_eq_getElem hi, e] at e'
    injection e' with e'
    rw [e']; simp [Value.oneCell']
  have hlen : (Cs ++ Ys).length = n1 + n2 := by rw [List.length_append, l1, l2]
  have HLEN := Lib.hid hlen
  have HSTL : Hid (LT N (stillF N) = LT N (lnSS n1 (fun _ => -1) ((Cs ++ Ys).take 0))) := LT_congr (fun j hj => by simp [stillF, hj, lnSS])
  clear hlen in1 in2 hl1 hl2 l1 l2
  go_enter Try.func27, Try.ntmps27
  go_wp2_with fail
  refine (l6In_any _ _ _ _).mono ?_
  rintro e w' ⟨rfl, rfl⟩
  rw [HS.out]
  go_wp2_with fail
  refine (l1None_any N hN6 w).mono ?_
  rintro e w1 ⟨vo, rfl, hout, hB1⟩
  rw [LT_length, HSTL.out] at hout
  obtain ⟨g, cp, rfl, hgb, hgl⟩ := hout.form (by omega)
  have hL0 : (w1.alloc (.cells #[] 27)).ownsRow w.heap.size 27 1 (.slice (some ⟨w1.heap.size, 0, none⟩) 0 0) 0 [] :=
    World.ownsRow_lit (base := w.heap.size) (e := 27) (size := 1) w1 #[] 0 hB1.size (by simp [maxLen]) rfl
  have r1' : ∀ j u, vs1[j]? = some u → (w1.alloc (.cells #[] 27)).cell? (ad.add j) = some u := fun j u hu => by
    have hj' : j < vs1.length := (List.getElem?_eq_some_iff.1 hu).1
    obtain ⟨a', e, hb, hc⟩ := r1.2 (by omega)
    injection e with e; subst e
    exact (World.cell?_alloc_lt w1 _ _ (by rw [block_of_add]; have := hB1.size; omega)).trans ((hB1.cell (by rw [block_of_add]; exact hb)).trans (hc j u hu))
  have q1 : 0 + n1 ≤ maxLen := by unfold maxLen; omega
  have q2 : (0 + n1) * 24 ≤ 140737488355328 := by omega
  have q3 : w.heap.size ≤ (w1.alloc (.cells #[] 27)).heap.size := by have := hB1.size; simp; omega
  have q4 : 0 + n1 + n2 ≤ maxLen := by unfold maxLen; omega
  have q5 : (0 + n1 + n2) * 24 ≤ 140737488355328 := by omega
  have hv1' : vs1.length = n1 * 1 := by omega
  have hv2' : vs2.length = n2 * 1 := by omega
  go_wp2_with (at_builtin
               first
               | (refine wpList_append_own_at _ rfl _ _ 28 rfl w.heap.size 27 i1 (.slice none 0 0) 1 24 Try.underlying28 hj hj0 hj1 hj2 rfl (by decide) _ _ _ rfl hL0 ad n1 c1 vs1 rfl hv1' r1' hone1 q1 q2 q3 ?_
                  intro v1 w2 hown1 hgrow1 _ hat1
                  have hB2 : Below w.heap.size w w2 := (hB1.alloc hB1.size _).grown hgrow1 q3 (fun k e => (hL0.lt k e).1)
                  have r2' : ∀ j u, vs2[j]? = some u → w2.cell? (bd.add j) = some u := fun j u hu => by
                    have hj' : j < vs2.length := (List.getElem?_eq_some_iff.1 hu).1
                    obtain ⟨a', e, hb, hc⟩ := r2.2 (by omega)
                    injection e with e; subst e
                    exact (hB2.cell (by rw [block_of_add]; exact hb)).trans (hc j u hu)
                  have q6 := hB2.size)
               | (refine wpList_append_own_at _ rfl _ _ 28 rfl w.heap.size 27 i1 (.slice none 0 0) 1 24 Try.underlying28 hj hj0 hj1 hj2 rfl (by decide) _ _ _ rfl hown1 bd n2 c2 vs2 rfl hv2' r2' hone2 q4 q5 q6 ?_
                  intro v2 w3 hown2 hgrow2 _ hat2))
  have hB3 : Below w.heap.size w w3 := hB2.grown hgrow2 q6 (fun k e => (hown1.lt k e).1)
  have hblk : ∀ (ww : World) (base q : Nat) (v : Value) (xs : List Value) (m : Nat), ww.ownsRow base 27 1 v m xs → (∃ cs, ww.heap[g]? = some (.cells cs 3 (0, 0))) → v.ownBlock ≠ some g := fun ww base q v xs m ho ⟨cs, hh⟩ => own_blk_ne ho hh (by decide)
  have hgo : ∃ cs, w1.heap[g]? = some (.cells cs 3 (0, 0)) := by
    rcases hout.2 with ⟨e, _⟩ | ⟨g', cap, cur, e, _, hh, _⟩
    · cases e
    · injection e with e _ _
      injection e with e
      injection e with e _ _
      subst e; exact ⟨cur, hh⟩
  have hg2 : w2.heap[g]? = w1.heap[g]? := (hgrow1.block g (by simp; omega) (fun e => hblk _ _ 0 _ _ _ hL0 (by obtain ⟨cs, hh⟩ := hgo; exact ⟨cs, (Below.heap_alloc w1 _ g hgl).trans hh⟩) e.symm)).trans (Below.heap_alloc w1 _ g hgl)
  have hg3 : w3.heap[g]? = w1.heap[g]? := (hgrow2.block g (by have := hgrow1.size; simp at this; omega) (fun e => hblk _ _ 0 _ _ _ hown1 (by obtain ⟨cs, hh⟩ := hgo; exact ⟨cs, hg2.trans hh⟩) e.symm)).trans hg2
  have hout3 : w3.ownsRow w.heap.size 3 1 (.slice (some ⟨g, 0, none⟩) N cp) N (ivs (LT N (lnSS n1 (fun _ => -1) ((Cs ++ Ys).take 0)))) :=
    own_same hout (fun q hq => by have : g = q := by simpa [Value.ownBlock] using hq
                                  subst this; exact hg3)
  have hall3 : w3.ownsRow w.heap.size 27 1 v2 (n1 + n2) (vs1 ++ vs2) := by simpa using hown2
  obtain ⟨Aa, ca, rfl⟩ := own_slice hall3
  clear hblk hgo hg2 hg3 hown1 hown2 hgrow1 hgrow2 hat1 hat2 hL0 r1' r2' hone1 hone2 hout hB2
  generalize hAll : Cs ++ Ys = All at HAL HLEN HWB HWL hout3
  have HAll := Lib.hid hAll
  clear hAll
  go_wp2
  go_loopw [9, 11] (fun s i wr => ∃ t : Nat, t ≤ n1 + n2 ∧ i = .int .i64 t ∧ s = .int .i64 (orSS 0 (All.take t) : Nat) ∧ Hid (okSS N 0 (All.take t) = true) ∧ wr.ownsRow w.heap.size 27 1 (.slice Aa (n1 + n2) ca) (n1 + n2) (vs1 ++ vs2) ∧
      wr.ownsRow w.heap.size 3 1 (.slice (some ⟨g, 0, none⟩) N cp) N (ivs (LT N (lnSS n1 (fun _ => -1) (All.take t)))) ∧ Below w.heap.size w wr) (fun _ i _ => n1 + n2 - (intOf i).toNat)
  case atStart => exact ⟨0, Nat.zero_le _, rfl, rfl, Lib.hid rfl, hall3, hout3, hB3⟩
  case round =>
    clear hout3 hall3 hB3 hB1
    obtain ⟨t, ht, rfl, rfl, HOK, hall, hout, hB⟩ := hrel
    have hent : ∀ L ∈ All.take t, ∀ z ∈ L, 0 ≤ z ∧ z < N := okSS_ent HOK.out
    have hml := orSS_lt (All.take t) 0 (by omega) (fun L hL z hz => by have := hent L hL z hz; omega)
    by_cases hlt : t < n1 + n2
    · have htl : t < All.length := by rw [HLEN.out]; exact hlt
      have hdt : decide ((t : Int) < (n1 : Int) + (n2 : Int)) = true := decide_eq_true (by omega)
      obtain ⟨hLl, Ai, ci, hvt, hrt⟩ := HAL.out t (All[t]?.getD []) (by rw [List.getElem?_eq_getElem htl]; rfl)
      obtain ⟨aa, u, rfl, hab, hu, hcell⟩ := (Reads.of_own hall).at_ hlt
      rw [hvt] at hu
      injection hu with hu
      subst hu
      have HBAD := Lib.hid (fun h => okSS_at (n := N) htl h)
      have HSTEP := Lib.hid (lnSS_step (c := n1) (T := fun _ => -1) htl)
      have HTK := Lib.hid (take_snoc_list All htl)
      generalize hL : All[t]?.getD [] = L at hLl hvt hrt hcell HBAD HSTEP HTK
      clear hL hvt hent
      by_cases hz : L.length = 0
      · have HB : Hid (wcB (N : Int) Cs Ys = false) := by
          show _ = _
          rw [HWB.out, HBAD.out (by rw [decide_eq_false (fun h => h (List.eq_nil_of_length_eq_zero hz))]; rfl)]; rfl
        have hzl : ((L.length : Int) == 0) = true := by rw [hz]; rfl
        have HL := Lib.hid (HWN.out HB.out)
        clear hz
        go_wp2
        go_ret2
        refine ⟨_, by rw [HB.out]; rfl, ?_, hB.alloc hB.size _⟩
        rw [HL.out]
        have := World.ownsRow_lit (base := w.heap.size) (e := 3) (size := 1) wr #[] 0 hB.size (by simp [maxLen]) rfl
        exact this
      · have hzl : ((L.length : Int) == 0) = false := by rw [beq_eq_false_iff_ne]; omega
        have hpos : 0 < L.length := by omega
        clear hz
        generalize hm0 : orSS 0 (All.take t) = m0 at hml ⊢
        have HM0 := Lib.hid hm0
        clear hm0
        generalize hT1 : lnSS n1 (fun _ => -1) (All.take t) = T1 at hout
        have HT1 := Lib.hid hT1
        clear hT1
        have HBL : Hid (okL N m0 L = false → wcB (N : Int) Cs Ys = false) := fun h => by
          rw [HWB.out, HBAD.out (by rw [HM0.out, h, Bool.and_false])]; rfl
        have hL0 : orL m0 (L.take 0) = m0 := rfl
        have HT10 : Hid (LT N (lnk T1 (L.take 0)) = LT N T1) := rfl
        clear HBAD
        go_wp2
        go_loopw [9, 13] (fun s k wr => ∃ q : Nat, q ≤ L.length ∧ k = .int .i64 q ∧ s = .int .i64 (orL m0 (L.take q) : Nat) ∧ Hid (okL N m0 (L.take q) = true) ∧ wr.ownsRow w.heap.size 27 1 (.slice (some aa) (n1 + n2) ca) (n1 + n2) (vs1 ++ vs2) ∧
            wr.ownsRow w.heap.size 3 1 (.slice (some ⟨g, 0, none⟩) N cp) N (ivs (LT N (lnk T1 (L.take q)))) ∧ Below w.heap.size w wr) (fun _ k _ => L.length - (intOf k).toNat)
        case atStart => exact ⟨0, Nat.zero_le _, rfl, by rw [hL0], Lib.hid rfl, hall, hout, hB⟩
        case round =>
          clear hall hout hB hL0 hcell hab
          obtain ⟨q, hq, rfl, rfl, HOL, hall, hout, hB⟩ := hrel
          have hLe := (okL_nodup _ _ HOL.out).2
          have hmq := orL_lt (L.take q) m0 hml (fun z hz => by have := hLe z hz; omega)
          by_cases hql : q < L.length
          · obtain ⟨ai, rfl, hai, hci⟩ := hrt.at_ hql
            have hcz := (hB.cell (p := ai.add q) (by rw [block_of_add]; exact hai)).trans hci
            have HAT := Lib.hid (fun h => okL_at (n := N) (m := m0) hql h)
            have HTQ := Lib.hid (take_snoc_get L hql)
            have HLS := Lib.hid (fun (p : Nat) (hp : p + 1 = q) => (by rw [← hp, lastI_take (by omega)] : lastI (L.take q) = L[p]?.getD 0))
            have HLZ : Hid (∀ p : Nat, p + 1 = q → 0 ≤ L[p]?.getD 0 ∧ L[p]?.getD 0 < N) := fun p hp => by
              have : L[p]?.getD 0 ∈ L.take q := by rw [List.getElem?_eq_getElem (by omega)]; exact List.mem_take_iff_getElem.2 ⟨p, by omega, rfl⟩
              have := hLe _ this; exact ⟨this.1, this.2.1⟩
            have HPC : Hid (∀ p : Nat, p + 1 = q → wr.cell? (ai.add p) = some (.int .i64 (L[p]?.getD 0))) := fun p hp => by
              obtain ⟨ai', e, hai', hci'⟩ := hrt.at_ (show p < L.length by omega)
              injection e with e; subst e
              exact (hB.cell (p := ai.add p) (by rw [block_of_add]; exact hai')).trans hci'
            generalize hzz : L[q]?.getD 0 = z at hcz HAT HTQ
            clear hzz hci hLe
            generalize hmm : orL m0 (L.take q) = mq at hmq HAT ⊢
            have HMM := Lib.hid hmm
            clear hmm
            by_cases hin : 0 ≤ z ∧ z < N
            · have HI : Hid (inB z 0 ((N : Int) - 1) = true) := decide_eq_true (by omega)
              obtain ⟨u, rfl⟩ := Int.eq_ofNat_of_zero_le hin.1
              have hu : u < N := by omega
              have hbit := bit_fin ⟨mq, hmq⟩ ⟨u, by omega⟩
              have hset := set_fin ⟨mq, hmq⟩ ⟨u, by omega⟩
              simp only at hbit hset
              cases hb : mq.testBit u
              · rw [hb] at hbit
                have HSET := Lib.hid hset
                have HOK2 : Hid (okL N m0 (L.take (q + 1)) = true) := by
                  show _ = _; rw [HTQ.out, okL_snoc, HOL.out, HMM.out, Bool.true_and]; exact decide_eq_true ⟨by omega, by omega, by rw [Int.toNat_natCast]; exact hb⟩
                have HOR2 : Hid (orL m0 (L.take (q + 1)) = mq ||| 1 <<< u) := by show _ = _; rw [HTQ.out, orL_snoc, HMM.out, Int.toNat_natCast]
                clear hset hb hin
                by_cases hq0 : 0 < q
                · obtain ⟨p, hpq⟩ : ∃ p, p + 1 = q := ⟨q - 1, by omega⟩
                  have HPQ := Lib.hid hpq
                  have hqp : (q : Int) - 1 = (p : Int) := by omega
                  have hpc := HPC.out p hpq
                  have hpz := HLZ.out p hpq
                  have HTT : Hid (lnk T1 (L.take (q + 1)) = upI (lnk T1 (L.take q)) (L[p]?.getD 0) (u : Int)) := by
                    show _ = _; rw [HTQ.out, lnk_snoc _ _ _ (fun e => by have := congrArg List.length e; rw [List.length_take, List.length_nil] at this; omega), HLS.out p hpq]
                  generalize L[p]?.getD 0 = y at hpc hpz HTT
                  obtain ⟨x, rfl⟩ := Int.eq_ofNat_of_zero_le hpz.1
                  have hx : x < N := by omega
                  have ho := hout.cellAt x (by omega)
                  have hf := hout.frozenAt x
                  obtain ⟨uu, huu⟩ : ∃ uu, (ivs (LT N (lnk T1 (L.take q))))[x]? = some uu := ⟨_, List.getElem?_eq_getElem (by simp [ivs, LT]; omega)⟩
                  rw [huu] at ho
                  have hst := (hout.stored x (.int .i64 (u : Int))).1
                  rw [ivs_set, LT_up _ hx, ← HTT.out] at hst
                  have hall2 := keep_other (y := x) (u := .int .i64 (u : Int)) hall hout (by decide)
                  have hB2 := hB.setCell (p := ⟨g, x, none⟩) hgb (.int .i64 (u : Int))
                  have HST := Lib.hid hst
                  have HALL := Lib.hid hall2
                  have HB2 := Lib.hid hB2
                  have hq2 : (p : Int) < (L.length : Int) := by omega
                  have hp6 : p ≤ 1048576 := Nat.le_trans (Nat.le_of_lt (Nat.lt_of_lt_of_le (Nat.lt_of_lt_of_eq (Nat.lt_succ_self p) hpq) hq)) hLl
                  have hw1 := (wrap_small hp6).1
                  have hw2 := (wrap_small hp6).2
                  have hq5 : (x : Int) < (N : Int) := by omega
                  clear hst hall2 hB2 huu hout hall HPC HLZ HLS hpq
                  go_wp2_with (go_at_call 48; refine (l6In_any _ _ _ _).mono ?_; rintro e w' ⟨rfl, rfl⟩; rw [HI.out])
                  go_still_tail 11, (by kernel_rfl)
                  change wpList _ _ _ _ _ wr.drew
                  have ho' : wr.drew.cell? ⟨g, x, none⟩ = some uu := ho
                  have hf' : wr.drew.frozen? ⟨g, x, none⟩ = false := hf
                  go_wp2
                  clear hw1 hw2 hqp hp6
                  have HW3 : Hid (wrap64 ((q : Int) + 1) = ((q + 1 : Nat) : Int)) := by
                    have h := (wrap_small (p := q + 1) (Nat.le_trans hql hLl)).1
                    show _ = _; simpa using h
                  go_roundw
                  case rel => exact ⟨q + 1, by omega, by rw [HW3.out], by rw [HOR2.out, ← HSET.out], HOK2, HALL.out, HST.out, ⟨HB2.out.os, HB2.out.tape, HB2.out.output, HB2.out.size, HB2.out.block⟩⟩
                  case measure => rw [HW3.out]; simp [intOf]; omega
                · have HTT : Hid (lnk T1 (L.take (q + 1)) = lnk T1 (L.take q)) := by
                    show _ = _
                    have e0 : q = 0 := by omega
                    rw [HTQ.out, e0]; simp [lnk]
                  go_wp2_with (go_at_call 48; refine (l6In_any _ _ _ _).mono ?_; rintro e w' ⟨rfl, rfl⟩; rw [HI.out])
                  go_roundw
                  case rel => exact ⟨q + 1, by omega, by go_num, by rw [HOR2.out, ← HSET.out], HOK2, hall, by rw [HTT.out]; exact hout, hB⟩
                  case measure => simp [intOf]; omega
              · rw [hb] at hbit
                have HB : Hid (wcB (N : Int) Cs Ys = false) := HBL.out (HAT.out (decide_eq_false (fun hh => by have := hh.2.2; rw [Int.toNat_natCast, hb] at this; cases this)))
                have HL := Lib.hid (HWN.out HB.out)
                clear HPC HLZ HLS
                go_wp2_with (go_at_call 48; refine (l6In_any _ _ _ _).mono ?_; rintro e w' ⟨rfl, rfl⟩; rw [HI.out])
                go_ret2
                refine ⟨_, by rw [HB.out]; rfl, ?_, hB.alloc hB.size _⟩
                rw [HL.out]
                exact World.ownsRow_lit (base := w.heap.size) (e := 3) (size := 1) wr #[] 0 hB.size (by simp [maxLen]) rfl
            · have HI : Hid (inB z 0 ((N : Int) - 1) = false) := decide_eq_false (by omega)
              have HB : Hid (wcB (N : Int) Cs Ys = false) := HBL.out (HAT.out (decide_eq_false (fun hh => hin ⟨hh.1, hh.2.1⟩)))
              have HL := Lib.hid (HWN.out HB.out)
              clear HPC HLZ HLS
              go_wp2_with (go_at_call 48; refine (l6In_any _ _ _ _).mono ?_; rintro e w' ⟨rfl, rfl⟩; rw [HI.out])
              go_ret2
              refine ⟨_, by rw [HB.out]; rfl, ?_, hB.alloc hB.size _⟩
              rw [HL.out]
              exact World.ownsRow_lit (base := w.heap.size) (e := 3) (size := 1) wr #[] 0 hB.size (by simp [maxLen]) rfl
          · obtain rfl : q = L.length := by omega
            have eT : L.take L.length = L := List.take_length
            rw [eT] at HOL hout
            have HOK2 : Hid (okSS N 0 (All.take (t + 1)) = true) := by
              show _ = _; rw [HTK.out, okSS_snoc, HOK.out, HM0.out, HOL.out, decide_eq_true (p := L ≠ []) (fun e => by rw [e] at hpos; simp at hpos)]; rfl
            have HOR2 : Hid (orSS 0 (All.take (t + 1)) = orL m0 (L.take L.length)) := by show _ = _; rw [HTK.out, orSS_snoc, HM0.out, eT]
            clear eT
            by_cases htc : t < n1
            · have HTT : Hid (lnSS n1 (fun _ => -1) (All.take (t + 1)) = lnk T1 L) := by show _ = _; rw [HSTEP.out, if_pos htc, HT1.out]
              go_wp2
              go_roundw
              case rel => exact ⟨t + 1, by omega, by go_num, by rw [HOR2.out], HOK2, hall, by rw [HTT.out]; exact hout, hB⟩
              case measure => simp [intOf]; omega
            · have HTT : Hid (lnSS n1 (fun _ => -1) (All.take (t + 1)) = cls T1 L) := by show _ = _; rw [HSTEP.out, if_neg htc, HT1.out]
              have hge : decide ((n1 : Int) ≤ (t : Int)) = true := decide_eq_true (by omega)
              obtain ⟨ai, rfl, hai, hci⟩ := hrt.at_ hpos
              obtain ⟨p, hpq⟩ : ∃ p, p + 1 = L.length := ⟨L.length - 1, by omega⟩
              obtain ⟨ai', e, hai', hcl⟩ := hrt.at_ (show p < L.length by omega)
              injection e with e; subst e
              have hnd := (okL_nodup _ _ HOL.out).2
              have hne : L ≠ [] := fun e => by rw [e] at hpos; simp at hpos
              have hlz := hnd _ (lastI_mem hne)
              have hhz := hnd _ (headI_mem hne)
              have ela : L[p]?.getD 0 = lastI L := by
                unfold lastI; rw [List.getLast?_eq_getElem?]; rw [show L.length - 1 = p by omega]
              have ehe : L[0]?.getD 0 = headI L := by unfold headI; rw [List.head?_eq_getElem?]
              rw [ela] at hcl
              rw [ehe] at hci
              unfold cls at HTT
              clear ela ehe hnd
              generalize lastI L = y at hcl hlz HTT
              generalize headI L = z at hci hhz HTT
              obtain ⟨x, rfl⟩ := Int.eq_ofNat_of_zero_le hlz.1
              obtain ⟨v, rfl⟩ := Int.eq_ofNat_of_zero_le hhz.1
              have hx : x < N := by omega
              have hc0 := (hB.cell (p := ai.add 0) (by rw [block_of_add]; exact hai)).trans hci
              have hc0' : wr.cell? ai = some (.int .i64 (v : Int)) := by have := hc0; rwa [show ai.add 0 = ai from rfl] at this
              have hcp := (hB.cell (p := ai.add p) (by rw [block_of_add]; exact hai)).trans hcl
              have ho := hout.cellAt x (by omega)
              have hf := hout.frozenAt x
              obtain ⟨uu, huu⟩ : ∃ uu, (ivs (LT N (lnk T1 L)))[x]? = some uu := ⟨_, List.getElem?_eq_getElem (by simp [ivs, LT]; omega)⟩
              rw [huu] at ho
              have hst := (hout.stored x (.int .i64 (v : Int))).1
              rw [ivs_set, LT_up _ hx, ← HTT.out] at hst
              have hall2 := keep_other (y := x) (u := .int .i64 (v : Int)) hall hout (by decide)
              have hB2 := hB.setCell (p := ⟨g, x, none⟩) hgb (.int .i64 (v : Int))
              have HST := Lib.hid hst
              have HALL := Lib.hid hall2
              have HB2 := Lib.hid hB2
              have hp6 : p ≤ 1048576 := Nat.le_trans (Nat.le_of_lt (Nat.lt_of_lt_of_eq (Nat.lt_succ_self p) hpq)) hLl
              have HW3 : Hid (wrap64 ((t : Int) + 1) = ((t + 1 : Nat) : Int)) := by show _ = _; unfold wrap64; omega
              have hqp : (L.length : Int) - 1 = (p : Int) := by omega
              have hq2 : (p : Int) < (L.length : Int) := by omega
              have hq0 : (0 : Int) < (L.length : Int) := by omega
              have hq5 : (x : Int) < (N : Int) := by omega
              have hw1 := (wrap_small hp6).1
              have hw2 := (wrap_small hp6).2
              clear hst hall2 hB2 huu hout hall hpq hci hcl
              go_wp2
              go_still_tail 11, (by kernel_rfl)
              change wpList _ _ _ _ _ wr.drew
              have ho' : wr.drew.cell? ⟨g, x, none⟩ = some uu := ho
              have hf' : wr.drew.frozen? ⟨g, x, none⟩ = false := hf
              go_wp2
              clear hw1 hw2 hqp hp6
              go_roundw
              case rel => exact ⟨t + 1, by omega, by first | go_num | rw [HW3.out], by rw [HOR2.out, List.take_length], HOK2, HALL.out, HST.out, ⟨HB2.out.os, HB2.out.tape, HB2.out.output, HB2.out.size, HB2.out.block⟩⟩
              case measure => first | (rw [HW3.out]; simp [intOf]; omega) | (simp [intOf]; omega)
    · obtain rfl : t = n1 + n2 := by omega
      have eT : All.take (n1 + n2) = All := List.take_of_length_le (by rw [HLEN.out]; exact Nat.le_refl _)
      rw [eT] at HOK hout hml
      rw [eT]
      have hp := one_fin ⟨N, by omega⟩
      simp only at hp
      have HP := Lib.hid hp.1
      have hp2 := hp.2
      have HBv : Hid (wcB (N : Int) Cs Ys = decide (orSS 0 All = 2 ^ N - 1)) := by show _ = _; rw [HWB.out, HOK.out, Bool.true_and]
      clear hp eT
      generalize orSS 0 All = mm at hml HBv ⊢
      generalize 2 ^ N - 1 = pw at HP hp2 HBv
      by_cases he : mm = pw
      · have HB : Hid (wcB (N : Int) Cs Ys = true) := by show _ = _; rw [HBv.out]; exact decide_eq_true he
        have HL := Lib.hid (HWL.out HB.out)
        have hne : ((mm : Int) != wrap64 (wrap64 (2 ^ N) - 1)) = false := by rw [HP.out, he]; simp
        clear he
        go_wp2
        go_ret2
        refine ⟨_, by rw [HB.out]; rfl, ?_, hB⟩
        rw [HL.out, LT_length]; exact hout
      · have HB : Hid (wcB (N : Int) Cs Ys = false) := by show _ = _; rw [HBv.out]; exact decide_eq_false he
        have HL := Lib.hid (HWN.out HB.out)
        have hne : ((mm : Int) != wrap64 (wrap64 (2 ^ N) - 1)) = true := by rw [HP.out, bne_iff_ne]; omega
        clear he
        go_wp2
        go_ret2
        refine ⟨_, by rw [HB.out]; rfl, ?_, hB.alloc hB.size _⟩
        rw [HL.out]
        exact World.ownsRow_lit (base := w.heap.size) (e := 3) (size := 1) wr #[] 0 hB.size (by simp [maxLen]) rfl
end Go.Proofs.Ytckppfgooflooaa
