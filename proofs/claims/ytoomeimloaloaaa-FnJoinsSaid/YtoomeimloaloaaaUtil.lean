/-
  The laws' own small functions on slices of ints: copies of them, equality.
-/
import Derived.Test.YtoomeimloaloaaaBase
import Derived.WalkKit
import Derived.Deep.QuietTactic
import Derived.BigQuiet
import Derived.Outline
namespace Go.Proofs.Ytoomeimloaloaaa
set_option maxRecDepth 100000
open Go.RowKit

theorem fill_step (zs : List Int) {n k : Nat} (hk : k < n) (hn : zs.length = n) : (ivs (zs.take k ++ List.replicate (n - k) 0)).set k (.int .i64 (zs[k]?.getD 0)) = ivs (zs.take (k + 1) ++ List.replicate (n - (k + 1)) 0) := by
  unfold ivs
  apply List.ext_getElem?
  intro j
  have hl : (zs.take k).length = k := by simp; omega
  have hl1 : (zs.take (k + 1)).length = k + 1 := by simp; omega
  simp only [List.getElem?_set, List.length_map, List.length_append, hl, hl1, List.length_replicate, List.getElem?_map, List.getElem?_append, List.getElem?_take, List.getElem?_replicate]
  by_cases e : k = j
  · subst e
    simp [List.getElem?_eq_getElem (show k < zs.length by omega)]
    omega
  · by_cases h1 : j < k
    · simp [e, h1, show j < k + 1 by omega]
    · simp [e, h1, show ¬ j < k + 1 by omega]
      by_cases h2 : j < n
      · simp [show j - k < n - k by omega, show j - (k + 1) < n - (k + 1) by omega]
      · simp [show ¬ j - k < n - k by omega, show ¬ j - (k + 1) < n - (k + 1) by omega]

set_option maxHeartbeats 400000 in
/-- toIntS: a copy, in a block of its own -/
theorem toIntS_any (A : Option Addr) (n c : Nat) (zs : List Int) (w : World) (h : RI w A n zs) (hn : n ≤ 1048576) :
    Calls Try.prog 8 #[.slice A n c] w fun e w' => ∃ B : Addr, e = .returned (.slice (some B) n n) ∧ w'.ownsRow w.heap.size 3 1 (.slice (some B) n n) n (ivs zs) ∧ Below w.heap.size w w' := by
  obtain ⟨i0, hi, hz0, hz1, hz2⟩ := info_parts info_int
  have hb8 : i0.bytes * n ≤ 281474976710656 := by rw [hz2]; omega
  have hmx : n ≤ maxLen := by unfold maxLen; omega
  have HL := Lib.hid h.len
  go_enter Try.func8, Try.ntmps8
  go_wp2_with (at_make; refine wpList_make_full _ rfl _ _ _ rfl w.heap.size 3 i0 _ 1 Try.underlying22 hi hz0 hz1 _ _ _ _ n rfl rfl rfl rfl hb8 hmx (Nat.le_refl _) ?_; intro w1 hown hg)
  have hB1 : Below w.heap.size w w1 := (Below.refl _ _).grown hg (Nat.le_refl _) (fun k e => by cases e)
  have hr0 : w1.ownsRow w.heap.size 3 1 (.slice (some ⟨w.heap.size, 0, none⟩) n n) n (ivs (zs.take 0 ++ List.replicate (n - 0) 0)) := by
    have e : (madeCells (Value.int .i64 0).cells (n * 1)).toList = ivs (zs.take 0 ++ List.replicate (n - 0) 0) := by
      show (madeCells #[Value.int .i64 0] (n * 1)).toList = _
      rw [toList_madeCells_one]; simp [ivs]
    rw [← e]; exact hown
  clear hown hg hi hz0 hz1 hz2 hb8
  go_loopw [4] (fun i wr => ∃ k : Nat, k ≤ n ∧ i = .int .i64 k ∧ wr.ownsRow w.heap.size 3 1 (.slice (some ⟨w.heap.size, 0, none⟩) n n) n (ivs (zs.take k ++ List.replicate (n - k) 0)) ∧ Below w.heap.size w wr) (fun i _ => n - (intOf i).toNat)
  case atStart => exact ⟨0, Nat.zero_le _, rfl, hr0, hB1⟩
  case round =>
    obtain ⟨k, hk, rfl, hrow, hbel⟩ := hrel
    clear hr0 hB1
    by_cases hlt : k < n
    · obtain ⟨ad, rfl, hab, hc⟩ := h.at_ hlt
      have hc' := (hbel.cell (p := ad.add k) (by rw [block_of_add]; exact hab)).trans hc
      have ho := hrow.cellAt k (by omega)
      have hf := hrow.frozenAt k
      obtain ⟨u, hu⟩ : ∃ u, (ivs (zs.take k ++ List.replicate (n - k) 0))[k]? = some u := ⟨_, List.getElem?_eq_getElem (by simp [ivs]; have := HL.out; omega)⟩
      rw [hu] at ho
      have hst := (hrow.stored k (.int .i64 (zs[k]?.getD 0))).1
      rw [fill_step zs hlt HL.out] at hst
      have HST := Lib.hid hst
      have hbel' := hbel.setCell (p := ⟨w.heap.size, k, none⟩) (Nat.le_refl _) (.int .i64 (zs[k]?.getD 0))
      clear hst hu hc h
      go_wp2
      go_roundw
      case rel => exact ⟨k + 1, by omega, by go_num, HST.out, hbel'⟩
      case measure => simp [intOf]; omega
    · obtain rfl : k = n := by omega
      go_wp2
      go_ret
      refine ⟨⟨w.heap.size, 0, none⟩, rfl, ?_, hbel⟩
      have e : zs.take k ++ List.replicate (k - k) 0 = zs := by rw [Nat.sub_self, List.replicate_zero, List.append_nil]; exact List.take_of_length_le (by have := HL.out; omega)
      rw [e] at hrow
      exact hrow

/-- two lists part at a place below k -/
theorem eq_of_take {zs ys : List Int} {n : Nat} (h1 : zs.length = n) (h2 : ys.length = n) (h : zs.take n = ys.take n) : zs = ys := by
  rwa [List.take_of_length_le (by omega), List.take_of_length_le (by omega)] at h
theorem take_snoc_get (zs : List Int) {k : Nat} (hk : k < zs.length) : zs.take (k + 1) = zs.take k ++ [zs[k]?.getD 0] := by
  rw [List.take_succ_eq_append_getElem hk, List.getElem?_eq_getElem hk]; rfl

def EqPost (zs ys : List Int) (w : World) (e : Ending) (w' : World) : Prop := e = .returned (.bool (decide (zs = ys))) ∧ Below w.heap.size w w'

set_option maxHeartbeats 400000 in
/-- eqIntS: whether two slices read as the same list -/
theorem eqIntS_any (A B : Option Addr) (n m c d : Nat) (zs ys : List Int) (w : World) (h : RI w A n zs) (h' : RI w B m ys) (hn : n ≤ 1048576) :
    Calls Try.prog 10 #[.slice A n c, .slice B m d] w (EqPost zs ys w) := by
  by_cases hnm : n = m
  · subst hnm
    have HL := Lib.hid h.len
    have HL' := Lib.hid h'.len
    go_enter Try.func10, Try.ntmps10
    go_wp2
    go_loopw [5] (fun i wr => ∃ k : Nat, k ≤ n ∧ i = .int .i64 k ∧ Hid (zs.take k = ys.take k) ∧ Below w.heap.size w wr) (fun i _ => n - (intOf i).toNat)
    case atStart => exact ⟨0, Nat.zero_le _, rfl, Lib.hid rfl, Below.refl _ _⟩
    case round =>
      obtain ⟨k, hk, rfl, HT, hbel⟩ := hrel
      by_cases hlt : k < n
      · obtain ⟨ad, rfl, hab, hc⟩ := h.at_ hlt
        obtain ⟨ad', rfl, hab', hc'⟩ := h'.at_ hlt
        have g := (hbel.cell (p := ad.add k) (by rw [block_of_add]; exact hab)).trans hc
        have g' := (hbel.cell (p := ad'.add k) (by rw [block_of_add]; exact hab')).trans hc'
        clear hc hc' h h'
        by_cases he : zs[k]?.getD 0 = ys[k]?.getD 0
        · have ht : ((zs[k]?.getD 0 : Int) != ys[k]?.getD 0) = false := by simp [he]
          have HE := Lib.hid he
          clear he
          go_wp2
          go_quiet (fail)
          all_goals go_wp2
          go_roundw
          case rel =>
            refine ⟨k + 1, by omega, by go_num, ?_, below_drewN hbel _⟩
            show zs.take (k + 1) = ys.take (k + 1)
            rw [take_snoc_get zs (by have := HL.out; omega), take_snoc_get ys (by have := HL'.out; omega), HT.out, HE.out]
          case measure => simp [intOf]; omega
        · have ht : ((zs[k]?.getD 0 : Int) != ys[k]?.getD 0) = true := by simp [he]
          go_wp2
          go_quiet (fail)
          all_goals go_wp2
          go_ret
          refine ⟨?_, below_drewN hbel _⟩
          rw [decide_eq_false (fun e => he (by rw [e]))]
          rfl
      · obtain rfl : k = n := by omega
        go_wp2
        go_ret
        refine ⟨?_, hbel⟩
        rw [decide_eq_true (eq_of_take HL.out HL'.out HT.out)]
        rfl
  · have hb : ((n : Int) != (m : Int)) = true := by rw [bne_iff_ne]; omega
    have HL := Lib.hid h.len
    have HL' := Lib.hid h'.len
    go_enter Try.func10, Try.ntmps10
    go_wp2
    go_ret
    refine ⟨?_, Below.refl _ _⟩
    rw [decide_eq_false (fun e => hnm (by rw [← HL.out, ← HL'.out, e]))]
    rfl

set_option maxHeartbeats 400000 in
/-- sameInts: whether two slices read as the same list -/
theorem sameInts_any (A B : Option Addr) (n m c d : Nat) (zs ys : List Int) (w : World) (h : RI w A n zs) (h' : RI w B m ys) (hn : n ≤ 1048576) :
    Calls Try.prog 20 #[.slice A n c, .slice B m d] w (EqPost zs ys w) := by
  by_cases hnm : n = m
  · subst hnm
    have HL := Lib.hid h.len
    have HL' := Lib.hid h'.len
    go_enter Try.func20, Try.ntmps20
    go_wp2
    go_loopw [5] (fun i wr => ∃ k : Nat, k ≤ n ∧ i = .int .i64 k ∧ Hid (zs.take k = ys.take k) ∧ Below w.heap.size w wr) (fun i _ => n - (intOf i).toNat)
    case atStart => exact ⟨0, Nat.zero_le _, rfl, Lib.hid rfl, Below.refl _ _⟩
    case round =>
      obtain ⟨k, hk, rfl, HT, hbel⟩ := hrel
      by_cases hlt : k < n
      · obtain ⟨ad, rfl, hab, hc⟩ := h.at_ hlt
        obtain ⟨ad', rfl, hab', hc'⟩ := h'.at_ hlt
        have g := (hbel.cell (p := ad.add k) (by rw [block_of_add]; exact hab)).trans hc
        have g' := (hbel.cell (p := ad'.add k) (by rw [block_of_add]; exact hab')).trans hc'
        clear hc hc' h h'
        by_cases he : zs[k]?.getD 0 = ys[k]?.getD 0
        · have ht : ((zs[k]?.getD 0 : Int) != ys[k]?.getD 0) = false := by simp [he]
          have HE := Lib.hid he
          clear he
          go_wp2
          go_quiet (fail)
          all_goals go_wp2
          go_roundw
          case rel =>
            refine ⟨k + 1, by omega, by go_num, ?_, below_drewN hbel _⟩
            show zs.take (k + 1) = ys.take (k + 1)
            rw [take_snoc_get zs (by have := HL.out; omega), take_snoc_get ys (by have := HL'.out; omega), HT.out, HE.out]
          case measure => simp [intOf]; omega
        · have ht : ((zs[k]?.getD 0 : Int) != ys[k]?.getD 0) = true := by simp [he]
          go_wp2
          go_quiet (fail)
          all_goals go_wp2
          go_ret
          refine ⟨?_, below_drewN hbel _⟩
          rw [decide_eq_false (fun e => he (by rw [e]))]
          rfl
      · obtain rfl : k = n := by omega
        go_wp2
        go_ret
        refine ⟨?_, hbel⟩
        rw [decide_eq_true (eq_of_take HL.out HL'.out HT.out)]
        rfl
  · have hb : ((n : Int) != (m : Int)) = true := by rw [bne_iff_ne]; omega
    have HL := Lib.hid h.len
    have HL' := Lib.hid h'.len
    go_enter Try.func20, Try.ntmps20
    go_wp2
    go_ret
    refine ⟨?_, Below.refl _ _⟩
    rw [decide_eq_false (fun e => hnm (by rw [← HL.out, ← HL'.out, e]))]
    rfl
end Go.Proofs.Ytoomeimloaloaaa
