/-
  slices.Equal of numbers; impl.sameGraph.
-/
import Derived.Test.YthliifgjolgmgaaDoorHb
namespace Go.Proofs.YthliifgjolgmgaaDoor
set_option maxRecDepth 100000
set_option linter.unusedVariables false
open Go.RowKit Go.Lib

theorem RI.get {w : World} {A : Option Addr} {n : Nat} {zs : List Int} (h : RI w A n zs) {k : Nat} (hk : k < n) : ∃ (ad : Addr) (z : Int), A = some ad ∧ ad.block < w.heap.size ∧ zs[k]? = some z ∧ w.cell? (ad.add k) = some (.int .i64 z) := by
  obtain ⟨ad, e, hb, hc⟩ := h.at_ hk
  have hl : k < zs.length := by rw [h.len]; exact hk
  exact ⟨ad, _, e, hb, List.getElem?_eq_getElem hl, by rw [hc, List.getElem?_eq_getElem hl]; rfl⟩
theorem take_int {zs : List Int} {k : Nat} {z : Int} (h : zs[k]? = some z) : zs.take (k + 1) = zs.take k ++ [z] := by
  have hk := (List.getElem?_eq_some_iff.1 h)
  rw [List.take_succ_eq_append_getElem hk.1, hk.2]
set_option maxHeartbeats 1000000 in
theorem slEqualI_any (A B : Option Addr) (n m c d : Nat) (zs ys : List Int) (w : World) (h : RI w A n zs) (h' : RI w B m ys) (hn : n ≤ 1048576) :
    Calls Tryd.prog 77 #[.slice A n c, .slice B m d] w fun e w' => e = .returned (.bool (decide (zs = ys))) ∧ Below w.heap.size w w' := by
  by_cases hnm : n = m
  · subst hnm
    have HL := Lib.hid h.len
    have HL' := Lib.hid h'.len
    go_enter Tryd.func77, Tryd.ntmps77
    go_wp2
    go_loopw [13] (fun i wr => ∃ k : Nat, k ≤ n ∧ i = .int .i64 k ∧ Hid (zs.take k = ys.take k) ∧ Below w.heap.size w wr) (fun i _ => n - (intOf i).toNat)
    case atStart => exact ⟨0, Nat.zero_le _, rfl, Lib.hid rfl, Below.refl _ _⟩
    case round =>
      obtain ⟨k, hk, rfl, HT, hbel⟩ := hrel
      by_cases hlt : k < n
      · obtain ⟨ad, s, rfl, hab, hs, hc⟩ := h.get hlt
        obtain ⟨ad', s', rfl, hab', hs', hc'⟩ := h'.get hlt
        have g := (hbel.cell (p := ad.add k) (by rw [block_of_add]; exact hab)).trans hc
        have g' := (hbel.cell (p := ad'.add k) (by rw [block_of_add]; exact hab')).trans hc'
        have HS := Lib.hid hs
        have HS' := Lib.hid hs'
        have hki : (k : Int) < (n : Int) := by omega
        clear hc hc' h h' hs hs'
        by_cases he : s = s'
        · have ht : (s != s') = false := by rw [he]; simp
          have HE := Lib.hid he
          clear he
          go_wp2
          go_quiet (fail)
          all_goals go_wp2
          go_roundw
          case rel =>
            refine ⟨k + 1, by omega, by go_num, ?_, below_drewN hbel _⟩
            show zs.take (k + 1) = ys.take (k + 1)
            rw [take_int HS.out, take_int HS'.out, HT.out, HE.out]
          case measure => simp [intOf]; omega
        · have ht : (s != s') = true := by rw [bne_iff_ne]; exact he
          have HE := Lib.hid he
          clear he
          go_wp2
          go_quiet (fail)
          all_goals go_wp2
          go_ret
          refine ⟨?_, below_drewN hbel _⟩
          rw [decide_eq_false (fun e => HE.out (by
            have h1 := HS.out
            have h2 := HS'.out
            rw [e] at h1
            exact Option.some.inj (h1.symm.trans h2)))]
          rfl
      · obtain rfl : k = n := by omega
        have hki : ¬ (k : Int) < (k : Int) := by omega
        go_wp2
        go_ret
        refine ⟨?_, hbel⟩
        have e : zs = ys := by
          have h := HT.out
          rwa [List.take_of_length_le (by have := HL.out; omega), List.take_of_length_le (by have := HL'.out; omega)] at h
        rw [decide_eq_true e]
        rfl
  · have hb : ((n : Int) != (m : Int)) = true := by rw [bne_iff_ne]; omega
    have HL := Lib.hid h.len
    have HL' := Lib.hid h'.len
    clear h h'
    go_enter Tryd.func77, Tryd.ntmps77
    go_wp2
    go_ret
    refine ⟨?_, Below.refl _ _⟩
    rw [decide_eq_false (fun e => hnm (by rw [← HL.out, ← HL'.out, e]))]
    rfl
set_option maxHeartbeats 2000000 in
theorem sameG_any (k k' : Int) (A B A' B' : Option Addr) (n m n' m' c d c' d' : Nat) (zs ys zs' ys' : List Int) (w : World) (h1 : RI w A n zs) (h2 : RI w B m ys) (h1' : RI w A' n' zs') (h2' : RI w B' m' ys') (hn : n ≤ 1048576) (hm : m ≤ 1048576) :
    Calls Tryd.prog 64 #[.agg #[.int .i64 k, .slice A n c, .slice B m d], .agg #[.int .i64 k', .slice A' n' c', .slice B' m' d']] w fun e w' => e = .returned (.bool (decide (k = k') && decide (zs = zs') && decide (ys = ys'))) ∧ Below w.heap.size w w' := by
  have hB0 := ((Below.refl w.heap.size w).alloc (Nat.le_refl _) (.cells #[.int .i64 k, .slice A n c, .slice B m d] 26)).alloc (by simp) (.cells #[.int .i64 k', .slice A' n' c', .slice B' m' d'] 26)
  have hA0 := (Blk.new w 26 #[.int .i64 k, .slice A n c, .slice B m d]).alloc (.cells #[.int .i64 k', .slice A' n' c', .slice B' m' d'] 26)
  have hA1 := Blk.new (w.alloc (.cells #[.int .i64 k, .slice A n c, .slice B m d] 26)) 26 #[.int .i64 k', .slice A' n' c', .slice B' m' d']
  have hz : ((w.alloc (.cells #[.int .i64 k, .slice A n c, .slice B m d] 26)).alloc (.cells #[.int .i64 k', .slice A' n' c', .slice B' m' d'] 26)).heap.size = w.heap.size + 1 + 1 := by simp
  simp only [World.size_alloc] at hA1
  have HT := Lib.hid (slEqualI_any A A' n n' c c' zs zs' _ (h1.below hB0) (h1'.below hB0) hn)
  have HR : Hid (∀ W : World, Below w.heap.size w W → Calls Tryd.prog 77 #[.slice B m d, .slice B' m' d'] W fun e w' => e = .returned (.bool (decide (ys = ys'))) ∧ Below W.heap.size W w') := fun W hW => slEqualI_any B B' m m' d d' ys ys' W (h2.below hW) (h2'.below hW) hm
  have HA0 := Lib.hid hA0
  have HA1 := Lib.hid hA1
  have HB0 := Lib.hid hB0
  have HZ := Lib.hid hz
  clear h1 h2 h1' h2' hB0 hA0 hA1 hz
  generalize decide (zs = zs') = q at *
  generalize decide (ys = ys') = r at *
  by_cases hk : k = k'
  · have hke : (k == k') = true := by rw [beq_iff_eq]; exact hk
    have HK : Hid (decide (k = k') = true) := decide_eq_true hk
    clear hk
    rw [HK.out]
    go_enter Tryd.func64, Tryd.ntmps64
    go_wp2_with fail
    refine HT.out.mono ?_
    rintro e w1 ⟨rfl, hb⟩
    have HB1 := Lib.hid (HB0.out.trans (hb.mono (by rw [HZ.out]; omega)))
    have hA0 := HA0.out.below hb HA0.out.lt
    have hA1 := HA1.out.below hb HA1.out.lt
    have b0 : w1.cell? ⟨w.heap.size, 2, none⟩ = some (.slice B m d) := hA0.cell 2
    have b1 : w1.cell? ⟨w.heap.size + 1, 2, none⟩ = some (.slice B' m' d') := hA1.cell 2
    have HT2 := Lib.hid (HR.out w1 HB1.out)
    clear hb hA0 hA1 HT HR HA0 HA1 HB0
    cases q with
    | false =>
      go_wp2
      go_ret
      exact ⟨by simp, HB1.out⟩
    | true =>
      go_wp2_with fail
      refine HT2.out.mono ?_
      rintro e w2 ⟨rfl, hb2⟩
      have HB2 := Lib.hid (HB1.out.trans (hb2.mono HB1.out.size))
      clear hb2 HT2
      go_wp2
      go_ret
      exact ⟨by simp, HB2.out⟩
  · have hke : (k == k') = false := by rw [beq_eq_false_iff_ne]; exact hk
    have HK : Hid (decide (k = k') = false) := decide_eq_false hk
    clear hk HT HR
    rw [HK.out]
    go_enter Tryd.func64, Tryd.ntmps64
    go_wp2
    go_ret
    exact ⟨by simp, HB0.out⟩
end Go.Proofs.YthliifgjolgmgaaDoor
