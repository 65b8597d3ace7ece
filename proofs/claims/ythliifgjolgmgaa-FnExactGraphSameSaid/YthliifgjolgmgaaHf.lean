/-
  spec.l2Same, spec.l5Equal, spec.GraphSame, impl.GraphSame.
-/
import Derived.Test.YthliifgjolgmgaaHe
import Derived.Deep.RegionHeld3
import Derived.Deep.RegionWith
namespace Go.Proofs.Ythliifgjolgmgaa
set_option maxRecDepth 100000
set_option linter.unusedVariables false
open Go.RowKit Go.Lib

/-- two graphs are the same, as told -/
def SameQ (k k' : Int) (zs ys zs' ys' : List Int) : Prop := GT k zs ys ∧ k = k' ∧ zs = zs' ∧ ys = ys'
theorem same3 {k k' : Int} {zs ys zs' ys' : List Int} : (decide (k = k') && decide (zs = zs') && decide (ys = ys')) = true ↔ k = k' ∧ zs = zs' ∧ ys = ys' := by
  rw [Bool.and_eq_true, Bool.and_eq_true, decide_eq_true_eq, decide_eq_true_eq, decide_eq_true_eq]
  exact ⟨fun ⟨⟨a, b⟩, c⟩ => ⟨a, b, c⟩, fun ⟨a, b, c⟩ => ⟨⟨a, b⟩, c⟩⟩
set_option maxHeartbeats 1000000 in
theorem l2SameI_any (A B : Option Addr) (n m c d : Nat) (zs ys : List Int) (w : World) (h : RI w A n zs) (h' : RI w B m ys) (hn : n ≤ 1048576) :
    Calls Try.prog 51 #[.slice A n c, .slice B m d] w fun e w' => e = .returned (.bool (decide (zs = ys))) ∧ Below w.heap.size w w' := by
  by_cases hnm : n = m
  · subst hnm
    have HL := Lib.hid h.len
    have HL' := Lib.hid h'.len
    go_enter Try.func51, Try.ntmps51
    go_wp2
    go_loopw [5] (fun i wr => ∃ k : Nat, k ≤ n ∧ i = .int .i64 k ∧ Hid (zs.take k = ys.take k) ∧ Below w.heap.size w wr) (fun i _ => n - (intOf i).toNat)
    case atStart => exact ⟨0, Nat.zero_le _, rfl, Lib.hid rfl, Below.refl _ _⟩
    case round =>
      obtain ⟨k, hk, rfl, HT, hbel⟩ := hrel
      by_cases hlt : k < n
      · obtain ⟨ad, s, rfl, hab, hs, hc⟩ := h.get hlt
        obtain ⟨ad', s', rfl, hab', hs', hc'⟩ := h'.get hlt
        have g := (hbel.cell (p := ad.add k) (by rw [block_of_add]; exact hab)).trans hc
        have g' := (hbel.cell (p := ad'.add k) (by rw [block_of_add]; exact hab')).trans hc'
        have HS := Lib.hid hs
        have HS' := Lib.hid hs'
        have hki : (k : Int) < (n : Int) := by omega
        clear hc hc' h h' hs hs'
        by_cases he : s = s'
        · have ht : (s != s') = false := by rw [he]; simp
          have HE := Lib.hid he
          clear he
          go_wp2
          go_quiet (fail)
          all_goals go_wp2
          go_roundw
          case rel =>
            refine ⟨k + 1, by omega, by go_num, ?_, below_drewN hbel _⟩
            show zs.take (k + 1) = ys.take (k + 1)
            rw [take_int HS.out, take_int HS'.out, HT.out, HE.out]
          case measure => simp [intOf]; omega
        · have ht : (s != s') = true := by rw [bne_iff_ne]; exact he
          have HE := Lib.hid he
          clear he
          go_wp2
          go_quiet (fail)
          all_goals go_wp2
          go_ret
          refine ⟨?_, below_drewN hbel _⟩
          rw [decide_eq_false (fun e => HE.out (by
            have h1 := HS.out
            have h2 := HS'.out
            rw [e] at h1
            exact Option.some.inj (h1.symm.trans h2)))]
          rfl
      · obtain rfl : k = n := by omega
        have hki : ¬ (k : Int) < (k : Int) := by omega
        go_wp2
        go_ret
        refine ⟨?_, hbel⟩
        have e : zs = ys := by
          have h := HT.out
          rwa [List.take_of_length_le (by have := HL.out; omega), List.take_of_length_le (by have := HL'.out; omega)] at h
        rw [decide_eq_true e]
        rfl
  · have hb : ((n : Int) != (m : Int)) = true := by rw [bne_iff_ne]; omega
    have HL := Lib.hid h.len
    have HL' := Lib.hid h'.len
    clear h h'
    go_enter Try.func51, Try.ntmps51
    go_wp2
    go_ret
    refine ⟨?_, Below.refl _ _⟩
    rw [decide_eq_false (fun e => hnm (by rw [← HL.out, ← HL'.out, e]))]
    rfl
set_option maxHeartbeats 2000000 in
theorem l5Equal_any (k k' : Int) (A B A' B' : Option Addr) (n m n' m' c d c' d' : Nat) (zs ys zs' ys' : List Int) (w : World) (h1 : RI w A n zs) (h2 : RI w B m ys) (h1' : RI w A' n' zs') (h2' : RI w B' m' ys') (hn : n ≤ 1048576) (hm : m ≤ 1048576) :
    Calls Try.prog 40 #[.agg #[.int .i64 k, .slice A n c, .slice B m d], .agg #[.int .i64 k', .slice A' n' c', .slice B' m' d']] w fun e w' => e = .returned (.bool (decide (k = k') && decide (zs = zs') && decide (ys = ys'))) ∧ Below w.heap.size w w' := by
  have hB0 := ((Below.refl w.heap.size w).alloc (Nat.le_refl _) (.cells #[.int .i64 k, .slice A n c, .slice B m d] 27)).alloc (by simp) (.cells #[.int .i64 k', .slice A' n' c', .slice B' m' d'] 27)
  have hA0 := (Blk.new w 27 #[.int .i64 k, .slice A n c, .slice B m d]).alloc (.cells #[.int .i64 k', .slice A' n' c', .slice B' m' d'] 27)
  have hA1 := Blk.new (w.alloc (.cells #[.int .i64 k, .slice A n c, .slice B m d] 27)) 27 #[.int .i64 k', .slice A' n' c', .slice B' m' d']
  have hz : ((w.alloc (.cells #[.int .i64 k, .slice A n c, .slice B m d] 27)).alloc (.cells #[.int .i64 k', .slice A' n' c', .slice B' m' d'] 27)).heap.size = w.heap.size + 1 + 1 := by simp
  simp only [World.size_alloc] at hA1
  have HT := Lib.hid (l2SameI_any A A' n n' c c' zs zs' _ (h1.below hB0) (h1'.below hB0) hn)
  have HR : Hid (∀ W : World, Below w.heap.size w W → Calls Try.prog 51 #[.slice B m d, .slice B' m' d'] W fun e w' => e = .returned (.bool (decide (ys = ys'))) ∧ Below W.heap.size W w') := fun W hW => l2SameI_any B B' m m' d d' ys ys' W (h2.below hW) (h2'.below hW) hm
  have HA0 := Lib.hid hA0
  have HA1 := Lib.hid hA1
  have HB0 := Lib.hid hB0
  have HZ := Lib.hid hz
  clear h1 h2 h1' h2' hB0 hA0 hA1 hz
  generalize decide (zs = zs') = q at *
  generalize decide (ys = ys') = r at *
  by_cases hk : k = k'
  · have hke : (k == k') = true := by rw [beq_iff_eq]; exact hk
    have HK : Hid (decide (k = k') = true) := decide_eq_true hk
    clear hk
    rw [HK.out]
    go_enter Try.func40, Try.ntmps40
    go_wp2_with fail
    refine HT.out.mono ?_
    rintro e w1 ⟨rfl, hb⟩
    have HB1 := Lib.hid (HB0.out.trans (hb.mono (by rw [HZ.out]; omega)))
    have hA0 := HA0.out.below hb HA0.out.lt
    have hA1 := HA1.out.below hb HA1.out.lt
    have b0 : w1.cell? ⟨w.heap.size, 2, none⟩ = some (.slice B m d) := hA0.cell 2
    have b1 : w1.cell? ⟨w.heap.size + 1, 2, none⟩ = some (.slice B' m' d') := hA1.cell 2
    have HT2 := Lib.hid (HR.out w1 HB1.out)
    clear hb hA0 hA1 HT HR HA0 HA1 HB0
    cases q with
    | false =>
      go_wp2
      go_ret
      exact ⟨by simp, HB1.out⟩
    | true =>
      go_wp2_with fail
      refine HT2.out.mono ?_
      rintro e w2 ⟨rfl, hb2⟩
      have HB2 := Lib.hid (HB1.out.trans (hb2.mono HB1.out.size))
      clear hb2 HT2
      go_wp2
      go_ret
      exact ⟨by simp, HB2.out⟩
  · have hke : (k == k') = false := by rw [beq_eq_false_iff_ne]; exact hk
    have HK : Hid (decide (k = k') = false) := decide_eq_false hk
    clear hk HT HR
    rw [HK.out]
    go_enter Try.func40, Try.ntmps40
    go_wp2
    go_ret
    exact ⟨by simp, HB0.out⟩
set_option maxHeartbeats 2000000 in
theorem specSame_any (k k' : Int) (A B A' B' : Option Addr) (n m n' m' c d c' d' : Nat) (zs ys zs' ys' : List Int) (w : World) (h1 : RI w A n zs) (h2 : RI w B m ys) (h1' : RI w A' n' zs') (h2' : RI w B' m' ys') (hn : n ≤ 1048576) (hm : m ≤ 1048576) (hn' : n' ≤ 1048576) (hm' : m' ≤ 1048576) :
    Calls Try.prog 21 #[.agg #[.int .i64 k, .slice A n c, .slice B m d], .agg #[.int .i64 k', .slice A' n' c', .slice B' m' d']] w fun e w' => ∃ r : Bool, e = .returned (.bool r) ∧ (r = true ↔ SameQ k k' zs ys zs' ys') ∧ Below w.heap.size w w' := by
  have hB0 := ((Below.refl w.heap.size w).alloc (Nat.le_refl _) (.cells #[.int .i64 k, .slice A n c, .slice B m d] 27)).alloc (by simp) (.cells #[.int .i64 k', .slice A' n' c', .slice B' m' d'] 27)
  have hA0 := (Blk.new w 27 #[.int .i64 k, .slice A n c, .slice B m d]).alloc (.cells #[.int .i64 k', .slice A' n' c', .slice B' m' d'] 27)
  have hA1 := Blk.new (w.alloc (.cells #[.int .i64 k, .slice A n c, .slice B m d] 27)) 27 #[.int .i64 k', .slice A' n' c', .slice B' m' d']
  simp only [World.size_alloc] at hA1
  have HT1 : Hid (∀ W : World, Below w.heap.size w W → Calls Try.prog 9 #[.agg #[.int .i64 k, .slice A n c, .slice B m d]] W fun e w' => ∃ r : Bool, e = .returned (.bool r) ∧ (r = true ↔ GT k zs ys) ∧ Below W.heap.size W w') := fun W hW => specGraphIn_any k A B n m c d zs ys W (h1.below hW) (h2.below hW) hn hm
  have HT2 : Hid (∀ W : World, Below w.heap.size w W → Calls Try.prog 9 #[.agg #[.int .i64 k', .slice A' n' c', .slice B' m' d']] W fun e w' => ∃ r : Bool, e = .returned (.bool r) ∧ (r = true ↔ GT k' zs' ys') ∧ Below W.heap.size W w') := fun W hW => specGraphIn_any k' A' B' n' m' c' d' zs' ys' W (h1'.below hW) (h2'.below hW) hn' hm'
  have HT3 : Hid (∀ W : World, Below w.heap.size w W → Calls Try.prog 40 #[.agg #[.int .i64 k, .slice A n c, .slice B m d], .agg #[.int .i64 k', .slice A' n' c', .slice B' m' d']] W fun e w' => ∃ r : Bool, e = .returned (.bool r) ∧ (r = true ↔ (k = k' ∧ zs = zs' ∧ ys = ys')) ∧ Below W.heap.size W w') := fun W hW => by
    refine (l5Equal_any k k' A B A' B' n m n' m' c d c' d' zs ys zs' ys' W (h1.below hW) (h2.below hW) (h1'.below hW) (h2'.below hW) hn hm).mono ?_
    rintro e w' ⟨rfl, hb⟩
    exact ⟨_, rfl, same3, hb⟩
  have HA0 := Lib.hid hA0
  have HA1 := Lib.hid hA1
  have HB0 := Lib.hid hB0
  clear h1 h2 h1' h2' hB0 hA0 hA1
  go_enter Try.func21, Try.ntmps21
  go_wp2_with fail
  refine (HT1.out _ HB0.out).mono ?_
  rintro e w1 ⟨r1, rfl, hr1, hb⟩
  have HB1 := Lib.hid (HB0.out.trans (hb.mono HB0.out.size))
  have HR1 := Lib.hid hr1
  have hA0 := HA0.out.below hb HA0.out.lt
  have hA1 := HA1.out.below hb HA1.out.lt
  have HA0 := Lib.hid hA0
  have HA1 := Lib.hid hA1
  have b0 : w1.cell? ⟨w.heap.size + 1, 0, none⟩ = some (.int .i64 k') := hA1.cell 0
  have b1 : w1.cell? ⟨w.heap.size + 1, 1, none⟩ = some (.slice A' n' c') := hA1.cell 1
  have b2 : w1.cell? ⟨w.heap.size + 1, 2, none⟩ = some (.slice B' m' d') := hA1.cell 2
  clear hb hr1 hA0 hA1 HB0
  cases r1 with
  | false =>
    have HNO : Hid (¬ SameQ k k' zs ys zs' ys') := fun h => Bool.noConfusion (HR1.out.2 h.1)
    go_wp2
    go_ret
    exact ⟨false, rfl, ⟨(fun h => by cases h), fun h => absurd h HNO.out⟩, HB1.out⟩
  | true =>
    have HG1 := Lib.hid (HR1.out.1 rfl)
    clear HR1
    go_wp2_with fail
    refine (HT2.out _ HB1.out).mono ?_
    rintro e w2 ⟨r2, rfl, hr2, hb⟩
    have HB2 := Lib.hid (HB1.out.trans (hb.mono HB1.out.size))
    have HR2 := Lib.hid hr2
    have hA0 := HA0.out.below hb HA0.out.lt
    have hA1 := HA1.out.below hb HA1.out.lt
    have a0 : w2.cell? ⟨w.heap.size, 0, none⟩ = some (.int .i64 k) := hA0.cell 0
    have a1 : w2.cell? ⟨w.heap.size, 1, none⟩ = some (.slice A n c) := hA0.cell 1
    have a2 : w2.cell? ⟨w.heap.size, 2, none⟩ = some (.slice B m d) := hA0.cell 2
    have b0 : w2.cell? ⟨w.heap.size + 1, 0, none⟩ = some (.int .i64 k') := hA1.cell 0
    have b1 : w2.cell? ⟨w.heap.size + 1, 1, none⟩ = some (.slice A' n' c') := hA1.cell 1
    have b2 : w2.cell? ⟨w.heap.size + 1, 2, none⟩ = some (.slice B' m' d') := hA1.cell 2
    clear hb hr2 hA0 hA1 HB1 HA0 HA1
    cases r2 with
    | false =>
      have HNO : Hid (¬ SameQ k k' zs ys zs' ys') := fun ⟨h, e1, e2, e3⟩ => Bool.noConfusion (HR2.out.2 (by rw [← e1, ← e2, ← e3]; exact h))
      go_wp2
      go_ret
      exact ⟨false, rfl, ⟨(fun h => by cases h), fun h => absurd h HNO.out⟩, HB2.out⟩
    | true =>
      go_wp2_with fail
      refine (HT3.out _ HB2.out).mono ?_
      rintro e w3 ⟨r3, rfl, hr3, hb⟩
      have HB3 := Lib.hid (HB2.out.trans (hb.mono HB2.out.size))
      have HR3 : Hid (r3 = true ↔ SameQ k k' zs ys zs' ys') := ⟨fun h => ⟨HG1.out, hr3.1 h⟩, fun h => hr3.2 h.2⟩
      clear hb hr3 HB2
      go_wp2
      go_ret
      exact ⟨r3, rfl, HR3.out, HB3.out⟩
set_option maxHeartbeats 2000000 in
theorem implSame5_any (k k' : Int) (A B A' B' : Option Addr) (n m n' m' c d c' d' : Nat) (zs ys zs' ys' : List Int) (w : World) (h1 : RI w A n zs) (h2 : RI w B m ys) (h1' : RI w A' n' zs') (h2' : RI w B' m' ys') (hn : n ≤ 1048576) (hm : m ≤ 1048576) :
    Calls Try.prog 22 #[.agg #[.int .i64 k, .slice A n c, .slice B m d], .agg #[.int .i64 k', .slice A' n' c', .slice B' m' d']] w fun e w' => ∃ r : Bool, e = .returned (.bool r) ∧ (r = true ↔ SameQ k k' zs ys zs' ys') ∧ Below w.heap.size w w' := by
  have hB0 := ((Below.refl w.heap.size w).alloc (Nat.le_refl _) (.cells #[.int .i64 k, .slice A n c, .slice B m d] 27)).alloc (by simp) (.cells #[.int .i64 k', .slice A' n' c', .slice B' m' d'] 27)
  have hA0 := (Blk.new w 27 #[.int .i64 k, .slice A n c, .slice B m d]).alloc (.cells #[.int .i64 k', .slice A' n' c', .slice B' m' d'] 27)
  have HT1 : Hid (∀ W : World, Below w.heap.size w W → Calls Try.prog 11 #[.agg #[.int .i64 k, .slice A n c, .slice B m d]] W fun e w' => ∃ r : Bool, e = .returned (.bool r) ∧ (r = true ↔ GT k zs ys) ∧ Below W.heap.size W w') := fun W hW => implGraphIn_any k A B n m c d zs ys W (h1.below hW) (h2.below hW) hn hm
  have HT3 : Hid (∀ W : World, Below w.heap.size w W → Calls Try.prog 41 #[.agg #[.int .i64 k, .slice A n c, .slice B m d], .agg #[.int .i64 k', .slice A' n' c', .slice B' m' d']] W fun e w' => ∃ r : Bool, e = .returned (.bool r) ∧ (r = true ↔ (k = k' ∧ zs = zs' ∧ ys = ys')) ∧ Below W.heap.size W w') := fun W hW => by
    refine (sameG_any k k' A B A' B' n m n' m' c d c' d' zs ys zs' ys' W (h1.below hW) (h2.below hW) (h1'.below hW) (h2'.below hW) hn hm).mono ?_
    rintro e w' ⟨rfl, hb⟩
    exact ⟨_, rfl, same3, hb⟩
  have HA0 := Lib.hid hA0
  have HB0 := Lib.hid hB0
  clear h1 h2 h1' h2' hB0 hA0
  go_enter Try.func22, Try.ntmps22
  go_wp2_with fail
  refine (HT3.out _ HB0.out).mono ?_
  rintro e w1 ⟨r1, rfl, hr1, hb⟩
  have HB1 := Lib.hid (HB0.out.trans (hb.mono HB0.out.size))
  have HR1 := Lib.hid hr1
  have hA0 := HA0.out.below hb HA0.out.lt
  have a0 : w1.cell? ⟨w.heap.size, 0, none⟩ = some (.int .i64 k) := hA0.cell 0
  have a1 : w1.cell? ⟨w.heap.size, 1, none⟩ = some (.slice A n c) := hA0.cell 1
  have a2 : w1.cell? ⟨w.heap.size, 2, none⟩ = some (.slice B m d) := hA0.cell 2
  clear hb hr1 hA0 HB0
  cases r1 with
  | false =>
    have HNO : Hid (¬ SameQ k k' zs ys zs' ys') := fun h => Bool.noConfusion (HR1.out.2 h.2)
    go_wp2
    go_ret
    exact ⟨false, rfl, ⟨(fun h => by cases h), fun h => absurd h HNO.out⟩, HB1.out⟩
  | true =>
    have HG1 := Lib.hid (HR1.out.1 rfl)
    clear HR1
    go_wp2_with fail
    refine (HT1.out _ HB1.out).mono ?_
    rintro e w2 ⟨r2, rfl, hr2, hb⟩
    have HB2 := Lib.hid (HB1.out.trans (hb.mono HB1.out.size))
    have HR2 : Hid (r2 = true ↔ SameQ k k' zs ys zs' ys') := ⟨fun h => ⟨hr2.1 h, HG1.out⟩, fun h => hr2.2 h.1⟩
    clear hb hr2 HB1
    go_wp2
    go_ret
    exact ⟨r2, rfl, HR2.out, HB2.out⟩
end Go.Proofs.Ythliifgjolgmgaa
