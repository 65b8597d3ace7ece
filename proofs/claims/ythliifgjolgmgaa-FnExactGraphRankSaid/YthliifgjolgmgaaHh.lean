/-
  slices.Grow of nothing, slices.Concat of two lists of numbers; impl.GraphRank.
-/
import Derived.Test.YthliifgjolgmgaaHg
import Derived.Lib.AppendZeros
namespace Go.Proofs.Ythliifgjolgmgaa
set_option maxRecDepth 100000
set_option linter.unusedVariables false
open Go.RowKit Go.Lib

set_option maxHeartbeats 400000 in
theorem growI_any (n : Nat) (hn : n ≤ 4194304) (w : World) :
    Calls Try.prog 46 #[.slice none 0 0, .int .i64 (n : Int)] w fun e w' => ∃ v, e = .returned v ∧ w'.ownsRow w.heap.size 3 1 v 0 [] ∧ Below w.heap.size w w' := by
  have hd : decide ((n : Int) < 0) = false := by simp
  rcases Nat.eq_zero_or_pos n with h0 | h0
  · have hd2 : decide ((0 : Int) < (n : Int)) = false := by simp; omega
    go_enter Try.func46, Try.ntmps46
    go_wp2
    go_ret
    exact ⟨_, rfl, World.ownsRow_nil _ _ _ _, Below.refl _ _⟩
  · have hd2 : decide ((0 : Int) < (n : Int)) = true := by simp; omega
    go_enter Try.func46, Try.ntmps46
    obtain ⟨i1, hj, hj0, hj1, hj2⟩ := info_parts info_int
    have hr := Lib.run_append_nil_zeros (P := Try.prog) w 22 3 22 3 i1 (.int .i64 0) .i64 .i64 (by kernel_rfl) (by kernel_rfl) hj hj0 n h0 (by omega) (by omega) (by rw [hj2]; omega)
    have hge := grownCap_ge w n 0 3
    have hle := grownCap_le_maxLen w n 0 3 (by unfold maxLen; omega)
    generalize grownCap w n 0 3 = cp at *
    have hz : ∀ m, (Builtin.zeroCells (Value.int .i64 0).cells m).size = m := fun m => by simp [Builtin.zeroCells, Value.cells]
    have hsz : (Builtin.zeroCells (Value.int .i64 0).cells n ++ Builtin.zeroCells (Value.int .i64 0).cells (cp - n)).size = cp * 1 := by rw [Array.size_append, hz, hz]; omega
    generalize Builtin.zeroCells (Value.int .i64 0).cells n ++ Builtin.zeroCells (Value.int .i64 0).cells (cp - n) = cur at *
    have hown : (w.drew.alloc (.cells cur 3)).ownsRow w.heap.size 3 1 (.slice (some ⟨w.heap.size, 0, none⟩) 0 cp) 0 [] :=
      ⟨rfl, .inr ⟨w.heap.size, cp, cur, rfl, Nat.le_refl _, heap_alloc_new w.drew _, Nat.zero_le _, hle, hsz, rfl⟩⟩
    have hB : Below w.heap.size w (w.drew.alloc (.cells cur 3)) := (below_drewN (Below.refl w.heap.size w) 1).alloc (Nat.le_refl _) _
    have HO := Lib.hid hown
    have HB := Lib.hid hB
    clear hown hB hsz hz
    go_wp2_with (at_builtin; refine Lib.wpList_append_run _ rfl _ _ _ _ rfl _ _ rfl rfl _ _ hr ?_)
    go_ret
    exact ⟨_, rfl, HO.out, HB.out⟩

def sz3 (n1 n2 : Nat) : Nat → Nat
  | 0 => 0
  | 1 => n1
  | _ => n1 + n2
def vv3 (vs1 vs2 : List Value) : Nat → List Value
  | 0 => []
  | 1 => vs1
  | _ => vs1 ++ vs2
set_option maxHeartbeats 1000000 in
theorem concatI_any (b : Nat) (ad bd : Addr) (n1 n2 c1 c2 : Nat) (Cs Ys : List Int) (w : World) (a0 : w.cell? ⟨b, 0, none⟩ = some (.slice (some ad) n1 c1)) (a1 : w.cell? ⟨b, 1, none⟩ = some (.slice (some bd) n2 c2)) (hb : b < w.heap.size)
    (h1 : RI w (some ad) n1 Cs) (h2 : RI w (some bd) n2 Ys) (hn1 : n1 ≤ 1048576) (hn2 : n2 ≤ 1048576) :
    Calls Try.prog 31 #[.slice (some ⟨b, 0, none⟩) 2 2] w fun e w' => ∃ A c, e = .returned (.slice A (n1 + n2) c) ∧ RI w' A (n1 + n2) (Cs ++ Ys) ∧ Below w.heap.size w w' := by
  obtain ⟨i1, hj, hj0, hj1, hj2⟩ := info_parts info_int
  have H1 := Lib.hid h1
  have H2 := Lib.hid h2
  obtain ⟨l1, r1⟩ := h1
  obtain ⟨l2, r2⟩ := h2
  obtain ⟨vs1, HE1⟩ : ∃ vs1, Hid (ivs Cs = vs1) := ⟨_, rfl⟩
  obtain ⟨vs2, HE2⟩ : ∃ vs2, Hid (ivs Ys = vs2) := ⟨_, rfl⟩
  have hoi : ∀ (zs : List Int), ∀ u ∈ ivs zs, u.oneCell' = true := fun zs v hv => by obtain ⟨z, _, e⟩ := List.mem_map.1 hv; rw [← e]; rfl
  have hone1 : ∀ u ∈ vs1, u.oneCell' = true := by rw [← HE1.out]; exact hoi Cs
  have hone2 : ∀ u ∈ vs2, u.oneCell' = true := by rw [← HE2.out]; exact hoi Ys
  rw [HE1.out] at r1
  rw [HE2.out] at r2
  have hlv1 : vs1.length = n1 * 1 := r1.1
  have hlv2 : vs2.length = n2 * 1 := r2.1
  clear hoi
  have hd1 : decide ((n1 : Int) < 0) = false := by simp
  have hd2 : decide ((n1 : Int) + (n2 : Int) < 0) = false := by simp; omega
  have HV1 := Lib.hid hlv1
  have HV2 := Lib.hid hlv2
  have HIN : Hid (∀ (w' : World) (A : Option Addr) (c : Nat), w'.ownsRow w.heap.size 3 1 (.slice A (n1 + n2) c) (n1 + n2) (vs1 ++ vs2) → RI w' A (n1 + n2) (Cs ++ Ys)) := fun w' A c hown => by
    refine RI.of_own (base := w.heap.size) (e := 3) (c := c) ?_
    have e : ivs (Cs ++ Ys) = vs1 ++ vs2 := by rw [← HE1.out, ← HE2.out]; simp [ivs]
    rw [e]; exact hown
  clear l1 l2 hlv1 hlv2
  go_enter Try.func31, Try.ntmps31
  go_wp2
  go_loopw [3, 11] (fun s i wr => ∃ t : Nat, t ≤ 2 ∧ i = .int .i64 (t : Int) ∧ s = .int .i64 (sz3 n1 n2 t : Nat) ∧ w = wr) (fun _ i _ => 2 - (intOf i).toNat)
  case atStart => exact ⟨0, by omega, rfl, rfl, rfl⟩
  case round =>
    obtain ⟨t, ht, rfl, rfl, rfl⟩ := hrel
    have h3 : t = 0 ∨ t = 1 ∨ t = 2 := by omega
    rcases h3 with rfl | rfl | rfl
    · simp only [sz3]
      go_wp2
      go_roundw
      case rel => exact ⟨1, by omega, rfl, rfl, trivial⟩
      case measure => simp [intOf]
    · simp only [sz3]
      go_wp2
      go_roundw
      case rel => exact ⟨2, by omega, rfl, by simp, trivial⟩
      case measure => simp [intOf]
    · simp only [sz3]
      have hg := growI_any (n1 + n2) (by omega) w
      rw [show ((n1 + n2 : Nat) : Int) = (n1 : Int) + (n2 : Int) from by omega] at hg
      go_wp2_with fail
      refine hg.mono ?_
      rintro e w1 ⟨v, rfl, hown, hB⟩
      clear hg
      go_wp2
      go_loopw [6, 27] (fun v i wr => ∃ t : Nat, t ≤ 2 ∧ i = .int .i64 (t : Int) ∧ wr.ownsRow w.heap.size 3 1 v (sz3 n1 n2 t) (vv3 vs1 vs2 t) ∧ Below w.heap.size w wr) (fun _ i _ => 2 - (intOf i).toNat)
      case atStart => exact ⟨0, by omega, rfl, hown, hB⟩
      case round =>
        clear hown hB
        obtain ⟨t, ht, rfl, hown, hB⟩ := hrel
        replace a0 := (hB.cell (p := ⟨b, 0, none⟩) hb).trans a0
        replace a1 := (hB.cell (p := ⟨b, 1, none⟩) hb).trans a1
        have h3 : t = 0 ∨ t = 1 ∨ t = 2 := by omega
        rcases h3 with rfl | rfl | rfl
        · simp only [sz3, vv3] at hown
          have r' : ∀ j u, vs1[j]? = some u → wr.cell? (ad.add j) = some u := fun j u hu => by
            have hj' : j < vs1.length := (List.getElem?_eq_some_iff.1 hu).1
            obtain ⟨a', e, hbb, hc⟩ := r1.2 (by have := HV1.out; omega)
            injection e with e; subst e
            exact (hB.cell (by rw [block_of_add]; exact hbb)).trans (hc j u hu)
          have q1 : 0 + n1 ≤ maxLen := by unfold maxLen; omega
          have q2 : (0 + n1) * 8 ≤ 140737488355328 := by omega
          have q3 := hB.size
          go_wp2_with (at_builtin; refine wpList_append_own _ rfl _ _ 22 rfl w.heap.size 3 i1 (.int .i64 0) 1 8 Try.underlying22 hj hj0 hj1 hj2 rfl (by decide) _ _ _ rfl hown ad n1 c1 vs1 rfl HV1.out r' hone1 q1 q2 q3 ?_; intro v1 w2 hown1 hgrow1 _)
          go_roundw
          case rel => exact ⟨1, by omega, rfl, by simpa [sz3, vv3] using hown1, hB.grown hgrow1 q3 (fun k e => (hown.lt k e).1)⟩
          case measure => simp [intOf]
        · simp only [sz3, vv3] at hown
          have r' : ∀ j u, vs2[j]? = some u → wr.cell? (bd.add j) = some u := fun j u hu => by
            have hj' : j < vs2.length := (List.getElem?_eq_some_iff.1 hu).1
            obtain ⟨a', e, hbb, hc⟩ := r2.2 (by have := HV2.out; omega)
            injection e with e; subst e
            exact (hB.cell (by rw [block_of_add]; exact hbb)).trans (hc j u hu)
          have q1 : n1 + n2 ≤ maxLen := by unfold maxLen; omega
          have q2 : (n1 + n2) * 8 ≤ 140737488355328 := by omega
          have q3 := hB.size
          go_wp2_with (at_builtin; refine wpList_append_own _ rfl _ _ 22 rfl w.heap.size 3 i1 (.int .i64 0) 1 8 Try.underlying22 hj hj0 hj1 hj2 rfl (by decide) _ _ _ rfl hown bd n2 c2 vs2 rfl HV2.out r' hone2 q1 q2 q3 ?_; intro v1 w2 hown1 hgrow1 _)
          go_roundw
          case rel => exact ⟨2, by omega, rfl, by simpa [sz3, vv3] using hown1, hB.grown hgrow1 q3 (fun k e => (hown.lt k e).1)⟩
          case measure => simp [intOf]
        · simp only [sz3, vv3] at hown
          obtain ⟨Aa, ca, rfl⟩ := own_sl5 hown
          have HR := Lib.hid (HIN.out wr Aa ca hown)
          go_wp2
          go_ret
          exact ⟨_, _, rfl, HR.out, hB⟩
theorem arr_app {zs ys : List Int} {n : Nat} (h : zs.length = n) (h' : ys.length = n) : arr (zs ++ ys) (n + n) = arr zs n + arr ys n := by
  unfold arr
  rw [List.take_of_length_le (by rw [List.length_append]; omega), List.take_of_length_le (by omega), List.take_of_length_le (by omega), List.filter_append, List.length_append]
set_option maxHeartbeats 2000000 in
theorem implRank5_any (k : Int) (a b : Option Addr) (p m c d : Nat) (zs ys : List Int) (w : World) (h : RI w a p zs) (h' : RI w b m ys) (hp : p ≤ 1048576) (hm : m ≤ 1048576) :
    Calls Try.prog 14 #[.agg #[.int .i64 k, .slice a p c, .slice b m d]] w (RnkPost k zs ys w) := by
  have hB0 : Below w.heap.size w (w.alloc (.cells #[.int .i64 k, .slice a p c, .slice b m d] 27)) := (Below.refl _ w).alloc (Nat.le_refl _) _
  have hA0 : Blk (w.alloc (.cells #[.int .i64 k, .slice a p c, .slice b m d] 27)) w.heap.size 27 #[.int .i64 k, .slice a p c, .slice b m d] := Blk.new w _ _
  have HIN := Lib.hid (implGraphIn_any k a b p m c d zs ys _ (h.below hB0) (h'.below hB0) hp hm)
  have HRI : Hid (∀ W : World, Below w.heap.size w W → RI W a p zs ∧ RI W b m ys) := fun W hW => ⟨h.below hW, h'.below hW⟩
  have HPL : Hid (zs.length = p ∧ ys.length = m) := ⟨h.len, h'.len⟩
  have HB0 := Lib.hid hB0
  have HA0 := Lib.hid hA0
  unfold RnkPost
  clear h h' hB0 hA0
  go_enter Try.func14, Try.ntmps14
  go_wp2_with fail
  refine HIN.out.mono ?_
  rintro e w1 ⟨r1, rfl, hr1, hb⟩
  have HA1 := Lib.hid (HA0.out.below hb HA0.out.lt)
  have HB1 := Lib.hid (HB0.out.trans (hb.mono HB0.out.size))
  have HR1 := Lib.hid hr1
  clear hb hr1 HIN HA0 HB0
  cases r1 with
  | false =>
    have HNO : Hid (¬ GT k zs ys) := fun h => Bool.noConfusion (HR1.out.2 h)
    go_wp2
    go_ret2
    exact ⟨0, false, rfl, .inr ⟨rfl, rfl, HNO.out⟩, HB1.out⟩
  | true =>
    have HG := Lib.hid (HR1.out.1 rfl)
    clear HR1
    obtain ⟨n, rfl, hn1, hn2, _⟩ := HG.out
    obtain ⟨l1, l2, _⟩ := gt_n HG.out
    obtain rfl : p = n := by rw [← HPL.out.1]; exact l1.1
    obtain rfl : m = p := by rw [← HPL.out.2]; exact l2.1
    obtain ⟨ad, rfl, _, _⟩ := (HRI.out _ HB1.out).1.at_ (k := 0) (by omega)
    obtain ⟨bd, rfl, _, _⟩ := (HRI.out _ HB1.out).2.at_ (k := 0) (by omega)
    have hm40 : m ≤ 40 := hn2
    have HAL : Hid (∀ z ∈ zs ++ ys, -1 ≤ z) := fun z hz => by
      rcases List.mem_append.1 hz with h | h
      · exact (l1.2.1 z h).1
      · exact (l2.2.1 z h).1
    have HAP : Hid (arr (zs ++ ys) (m + m) = arr zs m + arr ys m) := arr_app l1.1 l2.1
    have HT : Hid ((m : Int).toNat = m) := by show _ = _; omega
    clear l1 l2
    have hb2 : Below w1.heap.size w1 (w1.alloc (.cells #[.slice (some ad) m c, .slice (some bd) m d] 22)) := (Below.refl _ _).alloc (Nat.le_refl _) _
    have hE := Blk.new w1 22 #[.slice (some ad) m c, .slice (some bd) m d]
    have HB2 := Lib.hid (HB1.out.trans (hb2.mono HB1.out.size))
    have HCC := Lib.hid (concatI_any w1.heap.size ad bd m m c d zs ys (w1.alloc (.cells #[.slice (some ad) m c, .slice (some bd) m d] 22)) (hE.cell 0) (hE.cell 1) hE.lt (HRI.out _ HB2.out).1 (HRI.out _ HB2.out).2 hp hm)
    have g0 : w1.cell? ⟨w.heap.size, 0, none⟩ = some (.int .i64 (m : Int)) := HA1.out.cell 0
    have g1 : w1.cell? ⟨w.heap.size, 1, none⟩ = some (.slice (some ad) m c) := HA1.out.cell 1
    have g2 : w1.cell? ⟨w.heap.size, 2, none⟩ = some (.slice (some bd) m d) := HA1.out.cell 2
    clear hb2 hE
    go_wp2_with fail
    refine HCC.out.mono ?_
    rintro e w3 ⟨A, cc, rfl, hri, hb3⟩
    have HB3 := Lib.hid (HB2.out.trans (hb3.mono HB2.out.size))
    have HRR := Lib.hid hri
    generalize zs ++ ys = xs at *
    clear hb3 hri HCC HA1 HB1 HB2 HRI HPL g0 g1 g2
    go_wp2
    go_loopg [4, 20] (m + m) (fun g0 s4 s20 wr => ∃ j : Nat, j + g0 = m + m ∧ s20 = .int .i64 (j : Int) ∧ s4 = .int .i64 (1 - (m : Int) + (arr xs j : Int)) ∧ wr = w3)
    case atStart => exact ⟨0, by omega, rfl, by rw [arr_zero]; simp, rfl⟩
    case round =>
      obtain ⟨j, hjg, rfl, rfl, rfl⟩ := hrel
      have hal := arr_le xs j
      by_cases hlt : j < m + m
      · have hji : (j : Int) < (m : Int) + (m : Int) := by omega
        obtain ⟨ax, z, rfl, _, hz, hc⟩ := HRR.out.get hlt
        have hz1 := HAL.out z (List.mem_of_getElem? hz)
        by_cases hz0 : z = -1
        · subst hz0
          have HE : Hid (arr xs (j + 1) = arr xs j) := arr_no hz (by omega)
          obtain ⟨t, HTT⟩ : ∃ t, Hid (arr xs j = t) := ⟨_, rfl⟩
          rw [HTT.out] at hal
          rw [HTT.out]
          clear hz
          go_wp2
          go_roundg (m + m - (j + 1))
          case measure => omega
          case rel => exact ⟨j + 1, by omega, by go_num, by rw [HE.out, HTT.out], rfl⟩
        · have hzb : (z != -1) = true := by rw [bne_iff_ne]; exact hz0
          have HE : Hid (arr xs (j + 1) = arr xs j + 1) := arr_yes hz (by omega)
          obtain ⟨t, HTT⟩ : ∃ t, Hid (arr xs j = t) := ⟨_, rfl⟩
          rw [HTT.out] at hal
          rw [HTT.out]
          clear hz hz0
          go_wp2
          go_roundg (m + m - (j + 1))
          case measure => omega
          case rel => exact ⟨j + 1, by omega, by go_num, by rw [HE.out, HTT.out, Int.natCast_add, ← Int.add_assoc]; go_num, rfl⟩
      · obtain rfl : j = m + m := by omega
        have hji : ¬ ((m + m : Nat) : Int) < (m : Int) + (m : Int) := by omega
        go_wp2
        go_ret2
        have hap := HAP.out
        first
          | exact ⟨_, .inr ⟨rfl, ⟨by omega, HG.out⟩, HB3.out⟩⟩
          | exact ⟨_, true, rfl, .inl ⟨rfl, by rw [HT.out, ← HAP.out]; omega, HG.out⟩, HB3.out⟩
end Go.Proofs.Ythliifgjolgmgaa
