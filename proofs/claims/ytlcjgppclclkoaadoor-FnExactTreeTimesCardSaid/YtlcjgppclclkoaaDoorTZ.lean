/-
  Tf.
-/
import Derived.Test.YtlcjgppclclkoaaDoorTS
import Derived.Test.YtlcjgppclclkoaaDoorTU
import Derived.Test.YtlcjgppclclkoaaDoorTV
namespace Go.Proofs.YtlcjgppclclkoaaDoor
set_option maxRecDepth 100000
set_option linter.unusedVariables false
set_option linter.unusedSimpArgs false
set_option linter.unusedSectionVars false

/-! impl.areWords, slices.Equal of strings, impl.sameTree. -/
section
open Go.RowKit Go.Lib Go.Sort

theorem wvL_sv (S : List (List (Fin 4))) : wvL S = svL (S.map strOf) := by simp [wvL, svL]
theorem txs_sv (xs : List (List (Fin 4))) : txs xs = svL (xs.map txt) := by simp [txs, svL]
theorem no_len' {ss : List ByteArray} {e : ByteArray} (h : ¬ ss.length ≤ 60) : ¬ TinQ ss e := by
  rintro ⟨S, u, hT⟩
  exact h hT.words.2.2
theorem fm_len {α β : Type} (L : List α) (f : α → List β) (k : Nat) (h : ∀ x, (f x).length = k) : (L.flatMap f).length = L.length * k := by
  induction L with
  | nil => simp
  | cons a L ih => rw [List.flatMap_cons, List.length_append, ih, h, List.length_cons, Nat.succ_mul, Nat.add_comm]
set_option maxHeartbeats 1000000 in
theorem areWords_any (A : Option Addr) (n c : Nat) (ss : List ByteArray) (w : World) (h : RS w A n ss) (hn : n ≤ 1048576) (hl : ∀ s ∈ ss, s.size ≤ 1048576) :
    Calls Tryd.prog 76 #[.slice A n c] w fun e w' => e = .returned (.bool (ss.all wordB)) ∧ RowKit.Below w.heap.size w w' := by
  have HL := Lib.hid h.len
  have HZ := Lib.hid hl
  clear hl
  go_enter Tryd.func76, Tryd.ntmps76
  go_wp2
  go_loopw [7] (fun i wr => ∃ k : Nat, k ≤ n ∧ i = .int .i64 (k : Int) ∧ RowKit.Below w.heap.size w wr ∧ Hid ((ss.take k).all wordB = true)) (fun i _ => n - (intOf i).toNat)
  case atStart => exact ⟨0, Nat.zero_le _, rfl, RowKit.Below.refl _ _, Lib.hid (by simp)⟩
  case round =>
    obtain ⟨k, hk, rfl, hB, HX⟩ := hrel
    by_cases hlt : k < n
    · obtain ⟨ad, s, rfl, hab, hs, hc⟩ := h.at_ hlt
      have hc1 := (hB.cell (p := ad.add k) (by rw [block_of_add]; exact hab)).trans hc
      have HI := Lib.hid (isWord_any s (HZ.out s (List.mem_of_getElem? hs)) wr)
      have HS := Lib.hid hs
      clear hs hc h
      cases hb : wordB s with
      | false =>
        rw [hb] at HI
        have HF : Hid (ss.all wordB = false) := by
          show _ = _
          rw [List.all_eq_false]
          exact ⟨s, List.mem_of_getElem? HS.out, by simp [hb]⟩
        clear hb HS
        go_wp2_with fail
        refine HI.out.mono ?_
        rintro e w1 ⟨rfl, hb1⟩
        have hB1 := hB.trans (hb1.mono hB.size)
        clear hb1
        go_wp2
        go_ret
        exact ⟨by rw [HF.out]; rfl, hB1⟩
      | true =>
        rw [hb] at HI
        have HX2 : Hid ((ss.take (k + 1)).all wordB = true) := by
          show _ = _
          rw [take_str ss HS.out, List.all_append, HX.out]
          simp [hb]
        clear hb HS
        go_wp2_with fail
        refine HI.out.mono ?_
        rintro e w1 ⟨rfl, hb1⟩
        have hB1 := hB.trans (hb1.mono hB.size)
        clear hb1 HI
        go_wp2
        go_roundw
        case rel => exact ⟨k + 1, by omega, by go_num, hB1, HX2⟩
        case measure => simp [intOf]; omega
    · obtain rfl : k = n := by omega
      have HF : Hid (ss.all wordB = true) := by
        have := HX.out
        rwa [List.take_of_length_le (by have := HL.out; omega)] at this
      clear h
      go_wp2
      go_ret
      exact ⟨by rw [HF.out]; rfl, hB⟩
set_option maxHeartbeats 1000000 in
theorem slEqual_any (A B : Option Addr) (n m c d : Nat) (zs ys : List ByteArray) (w : World) (h : RS w A n zs) (h' : RS w B m ys) (hn : n ≤ 1048576) :
    Calls Tryd.prog 75 #[.slice A n c, .slice B m d] w fun e w' => e = .returned (.bool (decide (zs = ys))) ∧ RowKit.Below w.heap.size w w' := by
  by_cases hnm : n = m
  · subst hnm
    have HL := Lib.hid h.len
    have HL' := Lib.hid h'.len
    go_enter Tryd.func75, Tryd.ntmps75
    go_wp2
    go_loopw [13] (fun i wr => ∃ k : Nat, k ≤ n ∧ i = .int .i64 k ∧ Hid (zs.take k = ys.take k) ∧ RowKit.Below w.heap.size w wr) (fun i _ => n - (intOf i).toNat)
    case atStart => exact ⟨0, Nat.zero_le _, rfl, Lib.hid rfl, RowKit.Below.refl _ _⟩
    case round =>
      obtain ⟨k, hk, rfl, HT, hbel⟩ := hrel
      by_cases hlt : k < n
      · obtain ⟨ad, s, rfl, hab, hs, hc⟩ := h.at_ hlt
        obtain ⟨ad', s', rfl, hab', hs', hc'⟩ := h'.at_ hlt
        have g := (hbel.cell (p := ad.add k) (by rw [block_of_add]; exact hab)).trans hc
        have g' := (hbel.cell (p := ad'.add k) (by rw [block_of_add]; exact hab')).trans hc'
        have HS := Lib.hid hs
        have HS' := Lib.hid hs'
        clear hc hc' h h' hs hs'
        by_cases he : s = s'
        · have ht : (s.toList == s'.toList) = true := by rw [beq_str, decide_eq_true he]
          have HE := Lib.hid he
          clear he
          go_wp2
          go_quiet (fail)
          all_goals go_wp2
          go_roundw
          case rel =>
            refine ⟨k + 1, by omega, by go_num, ?_, below_drewN hbel _⟩
            show zs.take (k + 1) = ys.take (k + 1)
            rw [take_str zs HS.out, take_str ys HS'.out, HT.out, HE.out]
          case measure => simp [intOf]; omega
        · have ht : (s.toList == s'.toList) = false := by rw [beq_str, decide_eq_false he]
          go_wp2
          go_quiet (fail)
          all_goals go_wp2
          go_ret
          refine ⟨?_, below_drewN hbel _⟩
          rw [decide_eq_false (fun e => he (by
            have h1 := HS.out
            have h2 := HS'.out
            rw [e] at h1
            exact Option.some.inj (h1.symm.trans h2)))]
          rfl
      · obtain rfl : k = n := by omega
        go_wp2
        go_ret
        refine ⟨?_, hbel⟩
        have e : zs = ys := by
          have h := HT.out
          rwa [List.take_of_length_le (by have := HL.out; omega), List.take_of_length_le (by have := HL'.out; omega)] at h
        rw [decide_eq_true e]
        rfl
  · have hb : ((n : Int) != (m : Int)) = true := by rw [bne_iff_ne]; omega
    have HL := Lib.hid h.len
    have HL' := Lib.hid h'.len
    go_enter Tryd.func75, Tryd.ntmps75
    go_wp2
    go_ret
    refine ⟨?_, RowKit.Below.refl _ _⟩
    rw [decide_eq_false (fun e => hnm (by rw [← HL.out, ← HL'.out, e]))]
    rfl
set_option maxHeartbeats 1000000 in
theorem implSameT_any (A B : Option Addr) (n m c d : Nat) (zs ys : List ByteArray) (s t : ByteArray) (w : World) (h : RS w A n zs) (h' : RS w B m ys) (hn : n ≤ 1048576) :
    Calls Tryd.prog 53 #[.agg #[.slice A n c, .string s], .agg #[.slice B m d, .string t]] w fun e w' => e = .returned (.bool (decide (zs = ys) && decide (s = t))) ∧ RowKit.Below w.heap.size w w' := by
  have hB0 : RowKit.Below w.heap.size w ((w.alloc (.cells #[.slice A n c, .string s] 29)).alloc (.cells #[.slice B m d, .string t] 29)) := ((RowKit.Below.refl _ w).alloc (Nat.le_refl _) _).alloc (by simp) _
  have hT := slEqual_any A B n m c d zs ys _ (h.below hB0) (h'.below hB0) hn
  have hsz : ((w.alloc (.cells #[.slice A n c, .string s] 29)).alloc (.cells #[.slice B m d, .string t] 29)).heap.size = w.heap.size + 1 + 1 := by simp
  rw [hsz] at hT
  have HT := Lib.hid hT
  have HB0 := Lib.hid hB0
  clear hT hB0 hsz h h'
  generalize decide (zs = ys) = q at *
  have hst := beq_str s t
  generalize decide (s = t) = r at *
  cases r with
  | false =>
    have hq : (q && false) = false := Bool.and_false q
    rw [hq]
    clear hq
    go_enter Tryd.func53, Tryd.ntmps53
    go_wp2
    go_ret
    exact ⟨rfl, HB0.out⟩
  | true =>
    rw [Bool.and_true]
    go_enter Tryd.func53, Tryd.ntmps53
    go_wp2_with fail
    refine HT.out.mono ?_
    rintro e w1 ⟨rfl, hb⟩
    have HB1 := Lib.hid (HB0.out.trans (hb.mono (by omega)))
    clear hb HT HB0
    go_wp2
    go_ret
    exact ⟨rfl, HB1.out⟩
end

end Go.Proofs.YtlcjgppclclkoaaDoor
