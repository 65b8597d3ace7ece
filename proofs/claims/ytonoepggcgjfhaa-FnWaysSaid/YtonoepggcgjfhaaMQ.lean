/-
  Once Each Grow Along IChart Moves.
-/
import Derived.Lib.AppendZeros
import Derived.Laws.AppendOwnNone
import Derived.Test.YtonoepggcgjfhaaME
import Derived.Test.YtonoepggcgjfhaaMH
namespace Go.Proofs.Ytonoepggcgjfhaa
set_option maxRecDepth 100000
set_option linter.unusedVariables false
set_option linter.unusedSimpArgs false
set_option linter.unusedSectionVars false

/-! impl: each point stands in one list once. -/
section
open Go.RowKit

set_option maxHeartbeats 1000000 in
theorem standOnce_any (N : Nat) (hN1 : 1 ≤ N) (hN6 : N ≤ 6) (A : Option Addr) (n c : Nat) (All : List (List Int)) (w : World) (h : RSS w A n All) (hn : n ≤ 2097152) (hl : ∀ L ∈ All, L.length ≤ 1048576) :
    Calls Try.prog 26 #[.int .i64 (N : Int), .slice A n c] w fun e w' => e = .returned (.bool (okSS N 0 All && decide (orSS 0 All = 2 ^ N - 1))) ∧ w = w' := by
  have HLEN := Lib.hid h.len
  have HN := Lib.hid hl
  clear hl
  go_enter Try.func26, Try.ntmps26
  go_wp2
  go_loopw [5, 12] (fun s i wr => ∃ t : Nat, t ≤ n ∧ i = .int .i64 (t : Int) ∧ s = .int .i64 (orSS 0 (All.take t) : Nat) ∧ Hid (okSS N 0 (All.take t) = true) ∧ w = wr) (fun _ i _ => n - (intOf i).toNat)
  case atStart => exact ⟨0, Nat.zero_le _, rfl, rfl, Lib.hid rfl, rfl⟩
  case round =>
    obtain ⟨t, ht, rfl, rfl, HOK, rfl⟩ := hrel
    have hent : ∀ L ∈ All.take t, ∀ z ∈ L, 0 ≤ z ∧ z < N := okSS_ent HOK.out
    have hml := orSS_lt (All.take t) 0 (by omega) (fun L hL z hz => by have := hent L hL z hz; omega)
    by_cases hlt : t < n
    · have htl : t < All.length := by rw [HLEN.out]; exact hlt
      obtain ⟨ad, Ai, ci, rfl, hab, hc0, hri⟩ := h.at_ hlt
      have hLl : (All[t]?.getD []).length ≤ 1048576 := by rw [List.getElem?_eq_getElem htl]; exact HN.out _ (List.getElem_mem _)
      have HBAD := Lib.hid (fun h => okSS_at (n := N) htl h)
      have HTK := Lib.hid (take_snoc_list All htl)
      generalize hL : All[t]?.getD [] = L at hLl hc0 hri HBAD HTK
      clear hL hent
      by_cases hz : L.length = 0
      · have HB : Hid (okSS N 0 All = false) := HBAD.out (by rw [decide_eq_false (fun h => h (List.eq_nil_of_length_eq_zero hz))]; rfl)
        have hzl : ((L.length : Int) == 0) = true := by rw [hz]; rfl
        clear hz
        go_wp2
        go_ret
        exact ⟨by rw [HB.out]; rfl, rfl⟩
      · have hzl : ((L.length : Int) == 0) = false := by rw [beq_eq_false_iff_ne]; omega
        have HNE : Hid (L ≠ []) := fun e => hz (by rw [e]; rfl)
        clear hz
        generalize hm0 : orSS 0 (All.take t) = m0 at hml ⊢
        have HM0 := Lib.hid hm0
        clear hm0
        have HBL : Hid (okL N m0 L = false → okSS N 0 All = false) := fun h => HBAD.out (by rw [HM0.out, h, Bool.and_false])
        have hL0 : orL m0 (L.take 0) = m0 := rfl
        clear HBAD
        go_wp2
        go_loopw [5, 21] (fun s k wr => ∃ q : Nat, q ≤ L.length ∧ k = .int .i64 (q : Int) ∧ s = .int .i64 (orL m0 (L.take q) : Nat) ∧ Hid (okL N m0 (L.take q) = true) ∧ w = wr) (fun _ k _ => L.length - (intOf k).toNat)
        case atStart => exact ⟨0, Nat.zero_le _, rfl, by rw [hL0], Lib.hid rfl, rfl⟩
        case round =>
          clear hL0 hc0
          obtain ⟨q, hq, rfl, rfl, HOL, rfl⟩ := hrel
          have hLe := (okL_nodup _ _ HOL.out).2
          have hmq := orL_lt (L.take q) m0 hml (fun z hz => by have := hLe z hz; omega)
          by_cases hql : q < L.length
          · obtain ⟨ai, rfl, hai, hci⟩ := hri.at_ hql
            have HAT := Lib.hid (fun h => okL_at (n := N) (m := m0) hql h)
            have HTQ := Lib.hid (take_snoc_get L hql)
            generalize hzz : L[q]?.getD 0 = z at hci HAT HTQ
            clear hzz hLe
            generalize hmm : orL m0 (L.take q) = mq at hmq HAT ⊢
            have HMM := Lib.hid hmm
            clear hmm
            by_cases hin : 0 ≤ z ∧ z < N
            · obtain ⟨u, rfl⟩ := Int.eq_ofNat_of_zero_le hin.1
              have hu : u < N := by omega
              have hset := set_fin ⟨mq, hmq⟩ ⟨u, by omega⟩
              simp only at hset
              have hd1 : decide ((u : Int) < 0) = false := by simp
              have hd2 : decide ((N : Int) ≤ (u : Int)) = false := by simp; omega
              cases hb : mq.testBit u
              · have HSET := Lib.hid hset
                have HOK2 : Hid (okL N m0 (L.take (q + 1)) = true) := by
                  show _ = _; rw [HTQ.out, okL_snoc, HOL.out, HMM.out, Bool.true_and]; exact decide_eq_true ⟨by omega, by omega, by rw [Int.toNat_natCast]; exact hb⟩
                have HOR2 : Hid (orL m0 (L.take (q + 1)) = mq ||| 1 <<< u) := by show _ = _; rw [HTQ.out, orL_snoc, HMM.out, Int.toNat_natCast]
                have HBT := Lib.hid hb
                clear hset hb hin
                go_wp2_with (go_at_call 40; refine (hasPoint_any mq (u : Int) hmq (by omega) (by omega) _).mono ?_; rintro e w' ⟨rfl, rfl⟩; rw [Int.toNat_natCast, HBT.out])
                go_roundw
                case rel => exact ⟨q + 1, by omega, by go_num, by rw [HOR2.out, ← HSET.out], HOK2, trivial⟩
                case measure => simp [intOf]; omega
              · have HB : Hid (okSS N 0 All = false) := HBL.out (HAT.out (decide_eq_false (fun hh => by have := hh.2.2; rw [Int.toNat_natCast, hb] at this; cases this)))
                have HBT := Lib.hid hb
                clear hset hb hin
                go_wp2_with (go_at_call 40; refine (hasPoint_any mq (u : Int) hmq (by omega) (by omega) _).mono ?_; rintro e w' ⟨rfl, rfl⟩; rw [Int.toNat_natCast, HBT.out])
                go_ret
                exact ⟨by rw [HB.out]; rfl, rfl⟩
            · have HB : Hid (okSS N 0 All = false) := HBL.out (HAT.out (decide_eq_false (fun hh => hin ⟨hh.1, hh.2.1⟩)))
              by_cases hz0 : z < 0
              · have hd1 : decide (z < 0) = true := decide_eq_true hz0
                go_wp2
                go_ret
                exact ⟨by rw [HB.out]; rfl, rfl⟩
              · have hd1 : decide (z < 0) = false := decide_eq_false hz0
                have hd2 : decide ((N : Int) ≤ z) = true := decide_eq_true (by omega)
                go_wp2
                go_ret
                exact ⟨by rw [HB.out]; rfl, rfl⟩
          · obtain rfl : q = L.length := by omega
            have HTT : Hid (orL m0 (L.take L.length) = orSS 0 (All.take (t + 1))) := by show _ = _; rw [List.take_length, HTK.out, orSS_snoc, HM0.out]
            have HOK2 : Hid (okSS N 0 (All.take (t + 1)) = true) := by
              show _ = _
              have := HOL.out
              rw [List.take_length] at this
              rw [HTK.out, okSS_snoc, HOK.out, HM0.out, this, decide_eq_true HNE.out]; rfl
            rw [HTT.out]
            go_wp2
            go_roundw
            case rel => exact ⟨t + 1, by omega, by go_num, rfl, HOK2, trivial⟩
            case measure => simp [intOf]; omega
    · obtain rfl : t = n := by omega
      have HTT : Hid (All.take t = All) := List.take_of_length_le (by rw [HLEN.out]; omega)
      have hok := HOK.out
      rw [HTT.out] at hok hml ⊢
      have hp := one_fin ⟨N, by omega⟩
      simp only at hp
      have HP := Lib.hid hp.1
      have HO := Lib.hid hok
      have hp2 := hp.2
      clear hp hok hent
      by_cases he : orSS 0 All = 2 ^ N - 1
      · have HB : Hid ((okSS N 0 All && decide (orSS 0 All = 2 ^ N - 1)) = true) := by show _ = _; rw [HO.out, decide_eq_true he]; rfl
        have hne : ((orSS 0 All : Nat) : Int) = wrap64 (wrap64 (2 ^ N) - 1) := by rw [HP.out, he]
        have hne2 : (((orSS 0 All : Nat) : Int) == wrap64 (wrap64 (2 ^ N) - 1)) = true := by rw [hne]; simp
        clear he hne
        go_wp2
        go_ret
        exact ⟨by rw [HB.out]; rfl, rfl⟩
      · have HB : Hid ((okSS N 0 All && decide (orSS 0 All = 2 ^ N - 1)) = false) := by show _ = _; rw [decide_eq_false he, Bool.and_false]
        have hne2 : (((orSS 0 All : Nat) : Int) == wrap64 (wrap64 (2 ^ N) - 1)) = false := by rw [HP.out, beq_eq_false_iff_ne]; omega
        clear he
        go_wp2
        go_ret
        exact ⟨by rw [HB.out]; rfl, rfl⟩
end

/-! impl: the ways of some lists. -/
section
open Go.RowKit

set_option maxHeartbeats 1000000 in
theorem linkedEach_any (kd lo hi : Nat) (A : Option Addr) (n c : Nat) (Ls : List (List Int)) (w : World) (h : OSS w lo hi (.slice A n c) Ls) (hn : n ≤ 1048576) (hne : ∀ L ∈ Ls, 1 ≤ L.length ∧ L.length ≤ 1048576) :
    Calls Try.prog 28 #[.int .i64 (kd : Int), .slice A n c] w fun e w' => ∃ (v : Value) (ps : List (KW × Nat)), e = .returned v ∧ ps.map (·.1) = Ls.map (fun L => (kd, L)) ∧ WW w' w.heap.size ps v ∧ Below w.heap.size w w' := by
  obtain ⟨i1, hj, hj0, hj1, hj2⟩ := info_parts info_way
  have HNE := Lib.hid hne
  have hnl : n = Ls.length := by obtain ⟨A', c', e⟩ := h.slice; injection e
  obtain ⟨vs, hrow, hvb, hinn⟩ := h
  rw [← hnl] at hrow
  have HNL := Lib.hid hnl
  clear hne hvb hnl
  go_enter Try.func28, Try.ntmps28
  go_wp2
  go_loopw [5, 10] (fun v i wr => ∃ (t : Nat) (ps : List (KW × Nat)), t ≤ n ∧ i = .int .i64 (t : Int) ∧ Hid (ps.map (·.1) = (Ls.take t).map (fun L => (kd, L))) ∧ WW wr w.heap.size ps v ∧ Below w.heap.size w wr) (fun _ i _ => n - (intOf i).toNat)
  case atStart => exact ⟨0, [], Nat.zero_le _, rfl, Lib.hid rfl, ⟨World.ownsRow_nil _ _ _ _, fun p hp => by cases hp⟩, Below.refl _ _⟩
  case round =>
    obtain ⟨t, ps, ht, rfl, HPS, hWW, hB⟩ := hrel
    by_cases hlt : t < n
    · obtain ⟨ad, u, rfl, hab, hu, hcell⟩ := (Reads.of_own hrow).at_ hlt
      obtain ⟨L, hL⟩ : ∃ L, Ls[t]? = some L := ⟨_, List.getElem?_eq_getElem (by rw [← HNL.out]; exact hlt)⟩
      have hoL := (hinn.own t u L hu hL).1
      have hLl := HNE.out L (List.mem_of_getElem? hL)
      obtain ⟨q, hq⟩ : ∃ q, L.length = q + 1 := ⟨_, (Nat.sub_add_cancel hLl.1).symm⟩
      have hoq := hoL
      rw [hq] at hoq
      obtain ⟨g, cu, rfl⟩ := ownsRow_succ hoq
      have hq6 : q + 1 ≤ 1048576 := by omega
      have HQ := Lib.hid hq
      have HT : Hid (Ls.take (t + 1) = Ls.take t ++ [L]) := by show _ = _; rw [List.take_add_one, hL]; rfl
      have hplen : ps.length = t := by
        have := congrArg List.length HPS.out
        simp at this
        have := HNL.out
        omega
      have hc := (hB.cell (p := ad.add t) (by rw [block_of_add]; exact hab)).trans hcell
      have hoq2 := own_below hoq hB
      clear hoL hoq hL hq hLl hcell hu
      go_wp2_with fail
      refine (linked_any (kd : Int) lo g cu (q + 1) L wr hoq2 HQ.out (by omega) hq6).mono ?_
      rintro e w3 ⟨rfl, hR, hb3⟩
      have hWW3 := hWW.below hb3
      have hB3 := hB.trans (hb3.mono hB.size)
      have hs3 := hB3.size
      have hsr := hB.size
      have hrowA := hWW3.1.alloc (.cells #[.int .i64 (kd : Int), .pointer (some ⟨wr.heap.size + 1, 0, none⟩)] 58)
      have p1 : ps.length + 1 ≤ maxLen := by rw [hplen]; unfold maxLen; omega
      have p2 : (ps.length + 1) * 16 ≤ 140737488355328 := by rw [hplen]; omega
      have p3 : w.heap.size ≤ (w3.alloc (.cells #[.int .i64 (kd : Int), .pointer (some ⟨wr.heap.size + 1, 0, none⟩)] 58)).heap.size := by simp; omega
      have HPL := Lib.hid hplen
      clear hplen hoq2 hWW hb3 hc
      go_wp2_with (at_builtin; refine wpList_append_own _ rfl _ _ 46 rfl w.heap.size 58 i1 (.agg #[.int .i64 0, .pointer none]) 2 16 Try.underlying46 hj hj0 hj1 hj2 rfl (by decide) _ _ _ rfl hrowA ⟨w3.heap.size, 0, none⟩ 1 1 [.int .i64 (kd : Int), .pointer (some ⟨wr.heap.size + 1, 0, none⟩)] rfl rfl (cell_two_new _ _ _ _) (by simp [Value.oneCell']) p1 p2 p3 ?_; intro v' w4 hown' hgrow _; have hB4 : Below w.heap.size w w4 := (hB3.alloc hs3 _).grown hgrow p3 (fun g hg => (hWW3.1.lt g hg).1); have hW4 := WW.app (x := (kd, L)) (b := wr.heap.size + 1) hWW3 ⟨by rw [HQ.out]; omega, by omega, by rw [HQ.out]; exact hR⟩ hown' hgrow)
      go_roundw
      case rel => exact ⟨t + 1, ps ++ [((kd, L), wr.heap.size + 1)], by omega, by go_num, by show _ = _; rw [HT.out, List.map_append, List.map_append, HPS.out]; rfl, hW4, hB4⟩
      case measure => simp [intOf]; omega
    · obtain rfl : t = n := by omega
      go_wp2
      go_ret
      exact ⟨_, ps, rfl, by rw [HPS.out, List.take_of_length_le (by rw [← HNL.out]; exact Nat.le_refl _)], hWW, hB⟩
end

/-! slices.Grow of nothing, slices.Concat of two lists of lists. -/
section
open Go.RowKit

set_option maxHeartbeats 400000 in
theorem grow_any (n : Nat) (hn : n ≤ 4194304) (w : World) :
    Calls Try.prog 41 #[.slice none 0 0, .int .i64 (n : Int)] w fun e w' => ∃ v, e = .returned v ∧ w'.ownsRow w.heap.size 24 1 v 0 [] ∧ Below w.heap.size w w' := by
  have hd : decide ((n : Int) < 0) = false := by simp
  rcases Nat.eq_zero_or_pos n with h0 | h0
  · have hd2 : decide ((0 : Int) < (n : Int)) = false := by simp; omega
    go_enter Try.func41, Try.ntmps41
    go_wp2
    go_ret
    exact ⟨_, rfl, World.ownsRow_nil _ _ _ _, Below.refl _ _⟩
  · have hd2 : decide ((0 : Int) < (n : Int)) = true := by simp; omega
    go_enter Try.func41, Try.ntmps41
    obtain ⟨i1, hj, hj0, hj1, hj2⟩ := info_parts info_partsS
    have hr := Lib.run_append_nil_zeros (P := Try.prog) w 22 3 22 24 i1 (.slice none 0 0) .i64 .i64 (by kernel_rfl) (by kernel_rfl) hj hj0 n h0 (by omega) (by omega) (by rw [hj2]; omega)
    have hge := grownCap_ge w n 0 24
    have hle := grownCap_le_maxLen w n 0 24 (by unfold maxLen; omega)
    generalize grownCap w n 0 24 = cp at *
    have hz : ∀ m, (Builtin.zeroCells (Value.slice none 0 0).cells m).size = m := fun m => by simp [Builtin.zeroCells, Value.cells]
    have hsz : (Builtin.zeroCells (Value.slice none 0 0).cells n ++ Builtin.zeroCells (Value.slice none 0 0).cells (cp - n)).size = cp * 1 := by rw [Array.size_append, hz, hz]; omega
    generalize Builtin.zeroCells (Value.slice none 0 0).cells n ++ Builtin.zeroCells (Value.slice none 0 0).cells (cp - n) = cur at *
    have hown : (w.drew.alloc (.cells cur 24)).ownsRow w.heap.size 24 1 (.slice (some ⟨w.heap.size, 0, none⟩) 0 cp) 0 [] :=
      ⟨rfl, .inr ⟨w.heap.size, cp, cur, rfl, Nat.le_refl _, heap_alloc_new w.drew _, Nat.zero_le _, hle, hsz, rfl⟩⟩
    have hB : Below w.heap.size w (w.drew.alloc (.cells cur 24)) := (below_drewN (Below.refl w.heap.size w) 1).alloc (Nat.le_refl _) _
    have HO := Lib.hid hown
    have HB := Lib.hid hB
    clear hown hB hsz hz
    go_wp2_with (at_builtin; refine Lib.wpList_append_run _ rfl _ _ _ _ rfl _ _ rfl rfl _ _ hr ?_)
    go_ret
    exact ⟨_, rfl, HO.out, HB.out⟩

def sz3 (n1 n2 : Nat) : Nat → Nat
  | 0 => 0
  | 1 => n1
  | _ => n1 + n2
def vv3 (vs1 vs2 : List Value) : Nat → List Value
  | 0 => []
  | 1 => vs1
  | _ => vs1 ++ vs2
set_option maxHeartbeats 1000000 in
theorem concat_any (b : Nat) (ad bd : Addr) (n1 n2 c1 c2 : Nat) (Cs Ys : List (List Int)) (w : World) (a0 : w.cell? ⟨b, 0, none⟩ = some (.slice (some ad) n1 c1)) (a1 : w.cell? ⟨b, 1, none⟩ = some (.slice (some bd) n2 c2)) (hb : b < w.heap.size)
    (h1 : RSS w (some ad) n1 Cs) (h2 : RSS w (some bd) n2 Ys) (hn1 : n1 ≤ 1048576) (hn2 : n2 ≤ 1048576) :
    Calls Try.prog 27 #[.slice (some ⟨b, 0, none⟩) 2 2] w fun e w' => ∃ A c, e = .returned (.slice A (n1 + n2) c) ∧ RSS w' A (n1 + n2) (Cs ++ Ys) ∧ Below w.heap.size w w' := by
  obtain ⟨i1, hj, hj0, hj1, hj2⟩ := info_parts info_partsS
  have H1 := Lib.hid h1
  have H2 := Lib.hid h2
  obtain ⟨l1, vs1, r1, in1⟩ := h1
  obtain ⟨l2, vs2, r2, in2⟩ := h2
  have hlv1 : vs1.length = n1 * 1 := r1.1
  have hlv2 : vs2.length = n2 * 1 := r2.1
  have hone : ∀ (W : World) (vs : List Value) (Ls : List (List Int)), vs.length = Ls.length → (∀ (i : Nat) (L : List Int), Ls[i]? = some L → ∃ (Ai : Option Addr) (ci : Nat), vs[i]? = some (.slice Ai L.length ci) ∧ RI W Ai L.length L) → ∀ u ∈ vs, u.oneCell' = true := fun W vs Ls hl hin u hu => by
    obtain ⟨i, hi, e⟩ := List.getElem_of_mem hu
    obtain ⟨Ai, ci, e', _⟩ := hin i _ (List.getElem?_eq_getElem (show i < Ls.length by omega))
    rw [List.getElem?_eq_getElem hi, e] at e'
    injection e' with e'
    rw [e']; simp [Value.oneCell']
  have hone1 := hone w vs1 Cs (by omega) in1
  have hone2 := hone w vs2 Ys (by omega) in2
  have hd1 : decide ((n1 : Int) < 0) = false := by simp
  have hd2 : decide ((n1 : Int) + (n2 : Int) < 0) = false := by simp; omega
  have HV1 := Lib.hid hlv1
  have HV2 := Lib.hid hlv2
  have HIN : Hid (∀ (w' : World) (A : Option Addr) (c : Nat), Below w.heap.size w w' → w'.ownsRow w.heap.size 24 1 (.slice A (n1 + n2) c) (n1 + n2) (vs1 ++ vs2) → RSS w' A (n1 + n2) (Cs ++ Ys)) := fun w' A c hB hown => by
    refine ⟨by rw [List.length_append, l1, l2], _, Reads.of_own hown, fun i L hL => ?_⟩
    by_cases hi : i < Cs.length
    · rw [List.getElem?_append_left hi] at hL
      obtain ⟨Ai, ci, e, hr⟩ := in1 i L hL
      exact ⟨Ai, ci, by rw [List.getElem?_append_left (by omega)]; exact e, hr.below hB⟩
    · rw [List.getElem?_append_right (by omega)] at hL
      obtain ⟨Ai, ci, e, hr⟩ := in2 _ L hL
      exact ⟨Ai, ci, by rw [List.getElem?_append_right (by omega), hlv1, Nat.mul_one, ← l1]; exact e, hr.below hB⟩
  clear in1 in2 hone l1 l2 hlv1 hlv2
  go_enter Try.func27, Try.ntmps27
  go_wp2
  go_loopw [3, 11] (fun s i wr => ∃ t : Nat, t ≤ 2 ∧ i = .int .i64 (t : Int) ∧ s = .int .i64 (sz3 n1 n2 t : Nat) ∧ w = wr) (fun _ i _ => 2 - (intOf i).toNat)
  case atStart => exact ⟨0, by omega, rfl, rfl, rfl⟩
  case round =>
    obtain ⟨t, ht, rfl, rfl, rfl⟩ := hrel
    have h3 : t = 0 ∨ t = 1 ∨ t = 2 := by omega
    rcases h3 with rfl | rfl | rfl
    · simp only [sz3]
      go_wp2
      go_roundw
      case rel => exact ⟨1, by omega, rfl, rfl, trivial⟩
      case measure => simp [intOf]
    · simp only [sz3]
      go_wp2
      go_roundw
      case rel => exact ⟨2, by omega, rfl, by simp [sz3], trivial⟩
      case measure => simp [intOf]
    · simp only [sz3]
      have hg := grow_any (n1 + n2) (by omega) w
      rw [show ((n1 + n2 : Nat) : Int) = (n1 : Int) + (n2 : Int) from by omega] at hg
      go_wp2_with fail
      refine hg.mono ?_
      rintro e w1 ⟨v, rfl, hown, hB⟩
      clear hg
      go_wp2
      go_loopw [6, 27] (fun v i wr => ∃ t : Nat, t ≤ 2 ∧ i = .int .i64 (t : Int) ∧ wr.ownsRow w.heap.size 24 1 v (sz3 n1 n2 t) (vv3 vs1 vs2 t) ∧ Below w.heap.size w wr) (fun _ i _ => 2 - (intOf i).toNat)
      case atStart => exact ⟨0, by omega, rfl, hown, hB⟩
      case round =>
        clear hown hB
        obtain ⟨t, ht, rfl, hown, hB⟩ := hrel
        replace a0 := (hB.cell (p := ⟨b, 0, none⟩) hb).trans a0
        replace a1 := (hB.cell (p := ⟨b, 1, none⟩) hb).trans a1
        have h3 : t = 0 ∨ t = 1 ∨ t = 2 := by omega
        rcases h3 with rfl | rfl | rfl
        · simp only [sz3, vv3] at hown
          have r' : ∀ j u, vs1[j]? = some u → wr.cell? (ad.add j) = some u := fun j u hu => by
            have hj' : j < vs1.length := (List.getElem?_eq_some_iff.1 hu).1
            obtain ⟨a', e, hbb, hc⟩ := r1.2 (by have := HV1.out; omega)
            injection e with e; subst e
            exact (hB.cell (by rw [block_of_add]; exact hbb)).trans (hc j u hu)
          have q1 : 0 + n1 ≤ maxLen := by unfold maxLen; omega
          have q2 : (0 + n1) * 24 ≤ 140737488355328 := by omega
          have q3 := hB.size
          go_wp2_with (at_builtin; refine wpList_append_own _ rfl _ _ 22 rfl w.heap.size 24 i1 (.slice none 0 0) 1 24 Try.underlying22 hj hj0 hj1 hj2 rfl (by decide) _ _ _ rfl hown ad n1 c1 vs1 rfl HV1.out r' hone1 q1 q2 q3 ?_; intro v1 w2 hown1 hgrow1 _)
          go_roundw
          case rel => exact ⟨1, by omega, rfl, by simpa [sz3, vv3] using hown1, hB.grown hgrow1 q3 (fun k e => (hown.lt k e).1)⟩
          case measure => simp [intOf]
        · simp only [sz3, vv3] at hown
          have r' : ∀ j u, vs2[j]? = some u → wr.cell? (bd.add j) = some u := fun j u hu => by
            have hj' : j < vs2.length := (List.getElem?_eq_some_iff.1 hu).1
            obtain ⟨a', e, hbb, hc⟩ := r2.2 (by have := HV2.out; omega)
            injection e with e; subst e
            exact (hB.cell (by rw [block_of_add]; exact hbb)).trans (hc j u hu)
          have q1 : n1 + n2 ≤ maxLen := by unfold maxLen; omega
          have q2 : (n1 + n2) * 24 ≤ 140737488355328 := by omega
          have q3 := hB.size
          go_wp2_with (at_builtin; refine wpList_append_own _ rfl _ _ 22 rfl w.heap.size 24 i1 (.slice none 0 0) 1 24 Try.underlying22 hj hj0 hj1 hj2 rfl (by decide) _ _ _ rfl hown bd n2 c2 vs2 rfl HV2.out r' hone2 q1 q2 q3 ?_; intro v1 w2 hown1 hgrow1 _)
          go_roundw
          case rel => exact ⟨2, by omega, rfl, by simpa [sz3, vv3] using hown1, hB.grown hgrow1 q3 (fun k e => (hown.lt k e).1)⟩
          case measure => simp [intOf]
        · simp only [sz3, vv3] at hown
          obtain ⟨Aa, ca, rfl⟩ := own_slice hown
          have HR := Lib.hid (HIN.out wr Aa ca hB hown)
          go_wp2
          go_ret
          exact ⟨_, _, rfl, HR.out, hB⟩
end

/-! charts along ways: what chartAlong leaves, as a fold over ways; rows of ways behind each other. -/
section
open Go.RowKit

/-- the chart T with a way more: a chain (0) or a cycle -/
def alS (T : Nat → Int) (x : KW) : Nat → Int := if x.1 = 0 then lnk T x.2 else cls T x.2
def alK (T : Nat → Int) (ks : List KW) : Nat → Int := ks.foldl alS T
theorem alK_cycles : ∀ (Ys : List (List Int)) (T : Nat → Int), alK T (Ys.map (fun L => (1, L))) = lnSS 0 T Ys
  | [], T => rfl
  | L :: Ys, T => by
    have ih := alK_cycles Ys (cls T L)
    show alK (alS T (1, L)) (Ys.map (fun L => (1, L))) = lnSS 0 (cls T L) Ys
    rw [← ih]; rfl
theorem alK_ways : ∀ (Cs Ys : List (List Int)) (T : Nat → Int), alK T (Cs.map (fun L => (0, L)) ++ Ys.map (fun L => (1, L))) = lnSS Cs.length T (Cs ++ Ys)
  | [], Ys, T => alK_cycles Ys T
  | L :: Cs, Ys, T => by
    have ih := alK_ways Cs Ys (lnk T L)
    show alK (alS T (0, L)) (Cs.map (fun L => (0, L)) ++ Ys.map (fun L => (1, L))) = lnSS Cs.length (lnk T L) (Cs ++ Ys)
    rw [← ih]; rfl
theorem alK_snoc (T : Nat → Int) (ks : List KW) (x : KW) : alK T (ks ++ [x]) = alS (alK T ks) x := by simp [alK]
theorem okSS_ne {n : Nat} : ∀ {Ls : List (List Int)} {m : Nat}, okSS n m Ls = true → ∀ L ∈ Ls, 1 ≤ L.length
  | [], m, _, L, hL => by cases hL
  | M :: Ls, m, h, L, hL => by
    unfold okSS at h
    rw [Bool.and_eq_true, Bool.and_eq_true] at h
    rcases List.mem_cons.1 hL with rfl | hL
    · have := of_decide_eq_true h.1.1
      cases L with
      | nil => exact absurd rfl this
      | cons y L => simp
    · exact okSS_ne h.2 L hL

theorem WW.join {W w1 : World} {lo : Nat} {ps qs : List (KW × Nat)} {v v' u : Value} (h : WW W lo ps v) (h' : WW W lo qs u)
    (hown' : w1.ownsRow lo 58 2 v' (ps.length + qs.length) (wc ps ++ wc qs)) (hgrow : W.grownBy w1 v.ownBlock) : WW w1 lo (ps ++ qs) v' := by
  have hring : ∀ (c m : Nat) (P : Nat → Int), Ring W c m P → Ring w1 c m P := fun c m P hR i hi => by
    have hs : W.heap[c + i]? = some _ := hR i hi
    have hlt : c + i < W.heap.size := (Array.getElem?_eq_some_iff.1 hs).1
    exact (hR i hi).same (hgrow.block (c + i) hlt (fun e => own_blk_ne h.1 hs (by decide) e.symm))
  refine ⟨by rw [wc_append, List.length_append]; exact hown', fun p hp => ?_⟩
  rcases List.mem_append.1 hp with hp | hp
  · exact ⟨(h.2 p hp).1, (h.2 p hp).2.1, hring _ _ _ (h.2 p hp).2.2⟩
  · exact ⟨(h'.2 p hp).1, (h'.2 p hp).2.1, hring _ _ _ (h'.2 p hp).2.2⟩
end

/-! impl.WaysChart, from what chartAlong is asked for. -/
section
open Go.RowKit

/-- what chartAlong is asked for -/
def AlongAsk : Prop := ∀ (N lo : Nat) (v : Value) (ps : List (KW × Nat)) (W : World), 1 ≤ N → N ≤ 6 → WW W lo ps v → (∀ p ∈ ps, p.1.1 ≤ 1) → (∀ p ∈ ps, ∀ z ∈ p.1.2, 0 ≤ z ∧ z < (N : Int)) → ps.length ≤ 2097152 →
  Calls Try.prog 29 #[.int .i64 (N : Int), v] W fun e w' => ∃ T : Nat → Int, e = .returned (.agg #[.int .i64 ((N : Int)), .int .i64 (T 0), .int .i64 (T 1), .int .i64 (T 2), .int .i64 (T 3), .int .i64 (T 4), .int .i64 (T 5)]) ∧ Hid (∀ j, j < N → T j = alK (fun _ => -1) (ps.map (·.1)) j) ∧ Below W.heap.size W w'
theorem WW.low {W : World} {lo lo' : Nat} {ps : List (KW × Nat)} {v : Value} (h : WW W lo ps v) (hl : lo' ≤ lo) : WW W lo' ps v :=
  ⟨own_base h.1 hl, fun p hp => ⟨(h.2 p hp).1, Nat.le_trans hl (h.2 p hp).2.1, (h.2 p hp).2.2⟩⟩
set_option maxHeartbeats 1000000 in
theorem implWaysChart_of (hAl : AlongAsk) (n : Int) (lo1 hi1 lo2 hi2 : Nat) (ad bd : Addr) (n1 n2 c1 c2 : Nat) (Cs Ys : List (List Int)) (w : World) (h1 : OSS w lo1 hi1 (.slice (some ad) n1 c1) Cs) (h2 : OSS w lo2 hi2 (.slice (some bd) n2 c2) Ys)
    (hn1 : n1 ≤ 1048576) (hn2 : n2 ≤ 1048576) (hl1 : ∀ L ∈ Cs, L.length ≤ 1048576) (hl2 : ∀ L ∈ Ys, L.length ≤ 1048576) :
    Calls Try.prog 9 #[.int .i64 n, .slice (some ad) n1 c1, .slice (some bd) n2 c2] w fun e w' => ∃ v, e = .returned (.tuple #[v, .bool (wcB n Cs Ys)]) ∧ NewL w (wcL n Cs Ys) v w' := by
  cases hS : inB n 1 6
  · have HB : Hid (wcB n Cs Ys = false) := by show _ = _; simp [wcB, hS]
    have HL : Hid (wcL n Cs Ys = []) := by show _ = _; unfold wcL; rw [HB.out]; rfl
    have hk : n < 1 ∨ 6 < n := by have := of_decide_eq_false hS; omega
    clear hS
    rcases hk with hk | hk
    · have hd : decide (n < 1) = true := by simpa using hk
      go_enter Try.func9, Try.ntmps9
      go_wp2
      go_ret2
      exact ⟨_, by rw [HB.out]; rfl, by rw [HL.out]; exact ⟨World.ownsRow_nil _ _ _ _, Below.refl _ _⟩⟩
    · have hd : decide (n < 1) = false := by simp; omega
      have hd2 : decide (6 < n) = true := by simpa using hk
      go_enter Try.func9, Try.ntmps9
      go_wp2
      go_ret2
      exact ⟨_, by rw [HB.out]; rfl, by rw [HL.out]; exact ⟨World.ownsRow_nil _ _ _ _, Below.refl _ _⟩⟩
  · have hk : 1 ≤ n ∧ n ≤ 6 := of_decide_eq_true hS
    obtain ⟨N, rfl⟩ := Int.eq_ofNat_of_zero_le (show 0 ≤ n by omega)
    have hN1 : 1 ≤ N := by omega
    have hN6 : N ≤ 6 := by omega
    have HWB : Hid ((okSS N 0 (Cs ++ Ys) && decide (orSS 0 (Cs ++ Ys) = 2 ^ N - 1)) = wcB (N : Int) Cs Ys) := by show _ = _; unfold wcB; rw [hS, Bool.true_and]; rfl
    have hd : decide ((N : Int) < 1) = false := by simp; omega
    have hd2 : decide (6 < (N : Int)) = false := by simp; omega
    have hlC : Cs.length = n1 := by obtain ⟨A', c', e⟩ := h1.slice; injection e with _ e _; exact e.symm
    have hlY : Ys.length = n2 := by obtain ⟨A', c', e⟩ := h2.slice; injection e with _ e _; exact e.symm
    have HLC := Lib.hid hlC
    have HLY := Lib.hid hlY
    have HL1 := Lib.hid hl1
    have HL2 := Lib.hid hl2
    have hl12 : Hid (∀ L ∈ Cs ++ Ys, L.length ≤ 1048576) := fun L hL => by
      rcases List.mem_append.1 hL with h | h
      · exact hl1 L h
      · exact hl2 L h
    clear hS hk hlC hlY hl1 hl2
    have hbl : Below w.heap.size w (w.alloc (.cells #[.slice (some ad) n1 c1, .slice (some bd) n2 c2] 22)) := (Below.refl _ w).alloc (Nat.le_refl _) _
    have hB2 := B2.new w 22 (.slice (some ad) n1 c1) (.slice (some bd) n2 c2)
    have hcc := concat_any w.heap.size ad bd n1 n2 c1 c2 Cs Ys _ (B2.c0 hB2) (B2.c1 hB2) (by simp) (rss_oss_ (h1.below hbl)) (rss_oss_ (h2.below hbl)) hn1 hn2
    have HCC := Lib.hid hcc
    clear hcc hB2
    go_enter Try.func9, Try.ntmps9
    go_wp2_with fail
    refine HCC.out.mono ?_
    rintro e w1 ⟨A, c, rfl, hRS, hb1⟩
    have hB1 := hbl.trans (hb1.mono (by simp))
    clear hbl hb1 HCC
    go_wp2_with fail
    refine (standOnce_any N hN1 hN6 A (n1 + n2) c (Cs ++ Ys) w1 hRS (by omega) hl12.out).mono ?_
    rintro e w' ⟨rfl, rfl⟩
    rw [HWB.out]
    cases hwc : wcB (N : Int) Cs Ys
    · have HWC := Lib.hid hwc
      have HL : Hid (wcL (N : Int) Cs Ys = []) := by show _ = _; unfold wcL; rw [hwc]; rfl
      clear hRS
      go_wp2
      go_ret2
      exact ⟨_, by rw [HWC.out]; rfl, by rw [HL.out]; exact ⟨World.ownsRow_nil _ _ _ _, hB1⟩⟩
    · have HWC := Lib.hid hwc
      have hok : okSS N 0 (Cs ++ Ys) = true := by have := HWB.out; rw [hwc, Bool.and_eq_true] at this; exact this.1
      have hne := okSS_ne hok
      have HEN := Lib.hid (okSS_ent hok)
      have HNC : Hid (∀ L ∈ Cs, 1 ≤ L.length ∧ L.length ≤ 1048576) := fun L hL => ⟨hne L (List.mem_append.2 (.inl hL)), HL1.out L hL⟩
      have HNY : Hid (∀ L ∈ Ys, 1 ≤ L.length ∧ L.length ≤ 1048576) := fun L hL => ⟨hne L (List.mem_append.2 (.inr hL)), HL2.out L hL⟩
      have HL : Hid (wcL (N : Int) Cs Ys = LT N (lnSS Cs.length (fun _ => -1) (Cs ++ Ys))) := by show _ = _; unfold wcL; rw [hwc]; rfl
      clear hwc hok hne hRS
      go_wp2_with fail
      refine (linkedEach_any 0 lo1 hi1 _ n1 c1 Cs _ (h1.below hB1) hn1 HNC.out).mono ?_
      rintro e w2 ⟨v, ps, rfl, hps, hWP, hb2⟩
      have hB2 := hB1.trans (hb2.mono hB1.size)
      go_wp2_with fail
      refine (linkedEach_any 1 lo2 hi2 _ n2 c2 Ys _ (h2.below hB2) hn2 HNY.out).mono ?_
      rintro e w3 ⟨u, qs, rfl, hqs, hWQ, hb3⟩
      have hB3 := hB2.trans (hb3.mono hB2.size)
      have hWP3 := (hWP.below hb3).low hB1.size
      have hWQ3 := hWQ.low hB2.size
      have hpl : ps.length = n1 := by have := congrArg List.length hps; simp at this; rw [this, HLC.out]
      have hql : qs.length = n2 := by have := congrArg List.length hqs; simp at this; rw [this, HLY.out]
      have HPS := Lib.hid hps
      have HQS := Lib.hid hqs
      clear hps hqs hWP hWQ hb2 hb3
      obtain ⟨i1, hj, hj0, hj1, hj2⟩ := info_parts info_way
      have HE : Hid (∀ p ∈ ps ++ qs, ∀ z ∈ p.1.2, 0 ≤ z ∧ z < (N : Int)) := fun p hp z hz => by
        rcases List.mem_append.1 hp with hp | hp
        · have : p.1 ∈ Cs.map (fun L => (0, L)) := by rw [← HPS.out]; exact List.mem_map.2 ⟨p, hp, rfl⟩
          obtain ⟨L, hL, e⟩ := List.mem_map.1 this
          exact HEN.out L (List.mem_append.2 (.inl hL)) z (by rw [← e] at hz; exact hz)
        · have : p.1 ∈ Ys.map (fun L => (1, L)) := by rw [← HQS.out]; exact List.mem_map.2 ⟨p, hp, rfl⟩
          obtain ⟨L, hL, e⟩ := List.mem_map.1 this
          exact HEN.out L (List.mem_append.2 (.inr hL)) z (by rw [← e] at hz; exact hz)
      have HKD : Hid (∀ p ∈ ps ++ qs, p.1.1 ≤ 1) := fun p hp => by
        rcases List.mem_append.1 hp with hp | hp
        · have : p.1 ∈ Cs.map (fun L => (0, L)) := by rw [← HPS.out]; exact List.mem_map.2 ⟨p, hp, rfl⟩
          obtain ⟨L, hL, e⟩ := List.mem_map.1 this
          rw [← e]; exact Nat.zero_le _
        · have : p.1 ∈ Ys.map (fun L => (1, L)) := by rw [← HQS.out]; exact List.mem_map.2 ⟨p, hp, rfl⟩
          obtain ⟨L, hL, e⟩ := List.mem_map.1 this
          rw [← e]; exact Nat.le_refl _
      have HAK : Hid (alK (fun _ => -1) ((ps ++ qs).map (·.1)) = lnSS Cs.length (fun _ => -1) (Cs ++ Ys)) := by
        show _ = _; rw [List.map_append, HPS.out, HQS.out]; exact alK_ways Cs Ys _
      have HEND : ∀ (W : World) (v' : Value), Below w.heap.size w W → WW W w.heap.size (ps ++ qs) v' → Calls Try.prog 29 #[.int .i64 (N : Int), v'] W fun e w' => ∃ T : Nat → Int, e = .returned (.agg #[.int .i64 ((N : Int)), .int .i64 (T 0), .int .i64 (T 1), .int .i64 (T 2), .int .i64 (T 3), .int .i64 (T 4), .int .i64 (T 5)]) ∧ Hid (∀ j, j < N → T j = lnSS Cs.length (fun _ => -1) (Cs ++ Ys) j) ∧ Below W.heap.size W w' := fun W v' _ hW => by
        have h := hAl N w.heap.size v' (ps ++ qs) W hN1 hN6 hW HKD.out HE.out (by rw [List.length_append]; omega)
        rw [HAK.out] at h
        exact h
      have HH := Lib.hid HEND
      clear HEND
      have hrq := hWQ3.1
      rcases hrq.2 with ⟨rfl, hq0⟩ | ⟨g, cap, cur, rfl, _, _, _, _, _, _⟩
      · have HQ0 : Hid (qs = []) := List.eq_nil_of_length_eq_zero hq0
        have hW0 : WW w3 w.heap.size (ps ++ qs) v := by rw [HQ0.out, List.append_nil]; exact hWP3
        have HW0 := Lib.hid hW0
        have hown := hWP3.1
        clear hq0 hrq hW0 hWQ3 hWP3
        go_wp2_with (at_builtin; refine wpList_append_own_none rfl _ _ 46 rfl w.heap.size 58 i1 2 Try.underlying46 hj _ _ _ rfl hown rfl ?_)
        refine (HH.out w3 _ hB3 HW0.out).mono ?_
        rintro e w4 ⟨T, rfl, HT, hb4⟩
        have hB4 := hB3.trans (hb4.mono hB3.size)
        have HLT : Hid (LT N T = wcL (N : Int) Cs Ys) := by show _ = _; rw [HL.out]; exact LT_congr HT.out
        clear hb4 hB3 hown
        go_wp2_with fail
        refine (list_any N hN6 T _).mono ?_
        rintro e w5 ⟨B, rfl, hown5, hb5⟩
        rw [HLT.out] at hown5
        have hln : (wcL (N : Int) Cs Ys).length = N := by rw [← HLT.out, LT_length]
        have HO : Hid (w5.ownsRow w.heap.size 3 1 (.slice (some B) N N) (wcL (N : Int) Cs Ys).length (ivs (wcL (N : Int) Cs Ys))) := by show World.ownsRow _ _ _ _ _ _ _; rw [hln]; exact own_base hown5 hB4.size
        have hB5 := hB4.trans (hb5.mono hB4.size)
        clear hown5 hb5 hln hB4
        go_wp2
        go_ret2
        exact ⟨_, by rw [HWC.out]; rfl, HO.out, hB5⟩
      · have hown := hWP3.1
        obtain rfl : qs.length = n2 := hql
        have hlen : (wc qs).length = qs.length * 2 := wc_length qs
        have hcl := hWQ3.1.cells rfl
        have hs3 := hB3.size
        have p1 : ps.length + qs.length ≤ maxLen := by rw [hpl]; unfold maxLen; omega
        have p2 : (ps.length + qs.length) * 16 ≤ 140737488355328 := by rw [hpl]; omega
        have HWP := Lib.hid hWP3
        have HWQ := Lib.hid hWQ3
        have HLN := Lib.hid hlen
        have hlt := hown.lt
        clear hrq hWP3 hWQ3 hlen
        go_wp2_with (at_builtin; refine wpList_append_own _ rfl _ _ 46 rfl w.heap.size 58 i1 (.agg #[.int .i64 0, .pointer none]) 2 16 Try.underlying46 hj hj0 hj1 hj2 rfl (by decide) _ _ _ rfl hown ⟨g, 0, none⟩ qs.length cap (wc qs) rfl HLN.out hcl (wc_one _) p1 p2 hs3 ?_; intro v9 w9 hown9 hgrow9 _; have HW0 := Lib.hid (WW.join HWP.out HWQ.out hown9 hgrow9); have hB9 : Below w.heap.size w w9 := hB3.grown hgrow9 hs3 (fun k e => (hlt k e).1); clear hown9 hgrow9 hcl hown hB3 hlt hs3)
        refine (HH.out w9 _ hB9 HW0.out).mono ?_
        rintro e w4 ⟨T, rfl, HT, hb4⟩
        have hB4 := hB9.trans (hb4.mono hB9.size)
        have HLT : Hid (LT N T = wcL (N : Int) Cs Ys) := by show _ = _; rw [HL.out]; exact LT_congr HT.out
        clear hb4 hB9
        go_wp2_with fail
        refine (list_any N hN6 T _).mono ?_
        rintro e w5 ⟨B, rfl, hown5, hb5⟩
        rw [HLT.out] at hown5
        have hln : (wcL (N : Int) Cs Ys).length = N := by rw [← HLT.out, LT_length]
        have HO : Hid (w5.ownsRow w.heap.size 3 1 (.slice (some B) N N) (wcL (N : Int) Cs Ys).length (ivs (wcL (N : Int) Cs Ys))) := by show World.ownsRow _ _ _ _ _ _ _; rw [hln]; exact own_base hown5 hB4.size
        have hB5 := hB4.trans (hb5.mono hB4.size)
        clear hown5 hb5 hln hB4
        go_wp2
        go_ret2
        exact ⟨_, by rw [HWC.out]; rfl, HO.out, hB5⟩
end

/-! impl: does a way move the point of a step; what is left of a chart after some steps of a way. -/
section
open Go.RowKit

/-- the chart T after the first k steps of a way -/
def pT (T : Nat → Int) (x : KW) (k : Nat) : Nat → Int := if k < x.2.length then lnk T (x.2.take (k + 1)) else alS T x
theorem pT_zero {T : Nat → Int} {x : KW} (h : 1 ≤ x.2.length) : pT T x 0 = T := by
  unfold pT
  rw [if_pos (by omega)]
  obtain ⟨k, L⟩ := x
  cases L with
  | nil => simp at h
  | cons y L => simp [lnk]
theorem pT_all (T : Nat → Int) (x : KW) : pT T x x.2.length = alS T x := by unfold pT; rw [if_neg (by omega)]
theorem pT_next {T : Nat → Int} {x : KW} {k : Nat} (h : k + 1 < x.2.length) : pT T x (k + 1) = upI (pT T x k) (ofL x.2 k) (ofL x.2 (k + 1)) := by
  unfold pT
  rw [if_pos h, if_pos (show k < x.2.length by omega), take_snoc_get x.2 h, lnk_snoc _ _ _ (fun e => by have := congrArg List.length e; rw [List.length_take, List.length_nil] at this; omega), lastI_take (by omega)]
  rfl
theorem pT_chain {T : Nat → Int} {L : List Int} {k : Nat} (h : k + 1 = L.length) : pT T (0, L) (k + 1) = pT T (0, L) k := by
  unfold pT alS
  simp only
  rw [if_neg (show ¬ (k + 1 < L.length) by omega), if_pos (show k < L.length by omega), h, List.take_length]
  rfl
theorem pT_cycle {T : Nat → Int} {L : List Int} {k : Nat} (h : k + 1 = L.length) : pT T (1, L) (k + 1) = upI (pT T (1, L) k) (ofL L k) (ofL L 0) := by
  unfold pT alS
  simp only
  rw [if_neg (show ¬ (k + 1 < L.length) by omega), if_pos (show k < L.length by omega), h, List.take_length]
  show cls T L = _
  unfold cls
  have e1 : lastI L = ofL L k := by
    have := lastI_take (L := L) (p := k) (by omega)
    rw [h, List.take_length] at this; exact this
  have e2 : headI L = ofL L 0 := by cases L <;> rfl
  rw [e1, e2]

set_option maxHeartbeats 400000 in
theorem movesFrom_cycle (b q : Nat) (W : World) : Calls Try.prog 45 #[.agg #[.int .i64 1, .pointer (some ⟨b, 0, none⟩)], .pointer (some ⟨q, 0, none⟩)] W fun e w' => e = .returned (.bool true) ∧ Below W.heap.size W w' := by
  have hb := B2.new W 58 (.int .i64 1) (.pointer (some ⟨b, 0, none⟩))
  have c0 := B2.c0 hb
  have c1 := B2.c1 hb
  go_enter Try.func45, Try.ntmps45
  go_wp2
  go_quiet (fail)
  all_goals go_wp2
  all_goals go_ret
  all_goals exact ⟨rfl, below_drewN ((Below.refl _ W).alloc (Nat.le_refl _) _) _⟩
set_option maxHeartbeats 400000 in
theorem movesFrom_chain (b q p : Nat) (z : Int) (W : World) (hs : Stp W q z (some ⟨p, 0, none⟩)) (zx zy : Int) (nx ny : Option Addr) (hp : Stp W p zx nx) (hf : Stp W b zy ny) : Calls Try.prog 45 #[.agg #[.int .i64 0, .pointer (some ⟨b, 0, none⟩)], .pointer (some ⟨q, 0, none⟩)] W fun e w' => e = .returned (.bool (decide (p ≠ b))) ∧ Below W.heap.size W w' := by
  have hb := B2.new W 58 (.int .i64 0) (.pointer (some ⟨b, 0, none⟩))
  have c0 := B2.c0 hb
  have c1 := B2.c1 hb
  have hs' := B2.alloc hs (.cells #[.int .i64 0, .pointer (some ⟨b, 0, none⟩)] 58)
  have d1 := B2.c1 hs'
  have hp' := B2.alloc hp (.cells #[.int .i64 0, .pointer (some ⟨b, 0, none⟩)] 58)
  have hf' := B2.alloc hf (.cells #[.int .i64 0, .pointer (some ⟨b, 0, none⟩)] 58)
  by_cases e : p = b
  · subst e
    have h10 : ∀ k, (binOp .neq 56 (.pointer (some ⟨p, 0, none⟩)) (.pointer (some ⟨p, 0, none⟩))).run Try.prog ((W.alloc (.cells #[.int .i64 0, .pointer (some ⟨p, 0, none⟩)] 58)).drewN k) = .ok (.bool false) _ := fun k => run_neq_same ⟨p, 0, none⟩ _
    go_enter Try.func45, Try.ntmps45
    go_wp2
    go_quiet (fail)
    all_goals go_wp2
    all_goals go_ret
    all_goals exact ⟨by simp, below_drewN ((Below.refl _ W).alloc (Nat.le_refl _) _) _⟩
  · have h10 : ∀ k, (binOp .neq 56 (.pointer (some ⟨p, 0, none⟩)) (.pointer (some ⟨b, 0, none⟩))).run Try.prog ((W.alloc (.cells #[.int .i64 0, .pointer (some ⟨b, 0, none⟩)] 58)).drewN k) = .ok (.bool true) _ := fun k => run_neq_other (a := ⟨p, 0, none⟩) (b := ⟨b, 0, none⟩) (w := (W.alloc (.cells #[.int .i64 0, .pointer (some ⟨b, 0, none⟩)] 58)).drewN k) (fun h => e (by injection h)) hp' hf'
    go_enter Try.func45, Try.ntmps45
    go_wp2
    go_quiet (fail)
    all_goals go_wp2
    all_goals go_ret
    all_goals exact ⟨by simp [e], below_drewN ((Below.refl _ W).alloc (Nat.le_refl _) _) _⟩
end

end Go.Proofs.Ytonoepggcgjfhaa
