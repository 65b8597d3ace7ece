/-
  Pt.
-/
import Derived.Test.YtlfbocmcbkcfhaaDoorUN
import Derived.Test.YtlfbocmcbkcfhaaDoorUQ
namespace Go.Proofs.YtlfbocmcbkcfhaaDoor
set_option maxRecDepth 100000
set_option linter.unusedVariables false
set_option linter.unusedSimpArgs false
set_option linter.unusedSectionVars false

/-! laws.sameTree: two trees with the same nodes and the same end. -/
section
open Go.RowKit Go.Lib Go.Sort
set_option maxHeartbeats 4000000 in
theorem sameTree2_any (A B : Option Addr) (n m c d : Nat) (zs ys : List ByteArray) (s t : ByteArray) (w : World) (h : RS w A n zs) (h' : RS w B m ys) (hn : n ≤ 1048576) :
    Calls Tryd.prog 18 #[.agg #[.slice A n c, .string s], .agg #[.slice B m d, .string t]] w fun e w' => e = .returned (.bool (decide (zs = ys) && decide (s = t))) ∧ RowKit.Below w.heap.size w w' := by
  have hB0 : RowKit.Below w.heap.size w ((w.alloc (.cells #[.slice A n c, .string s] 25)).alloc (.cells #[.slice B m d, .string t] 25)) := ((RowKit.Below.refl _ w).alloc (Nat.le_refl _) _).alloc (by simp) _
  have hA0 : Blk ((w.alloc (.cells #[.slice A n c, .string s] 25)).alloc (.cells #[.slice B m d, .string t] 25)) w.heap.size 25 #[.slice A n c, .string s] := (Blk.new w _ _).alloc _
  have hA1 : Blk ((w.alloc (.cells #[.slice A n c, .string s] 25)).alloc (.cells #[.slice B m d, .string t] 25)) (w.heap.size + 1) 25 #[.slice B m d, .string t] := by
    have := Blk.new (w.alloc (.cells #[.slice A n c, .string s] 25)) 25 #[.slice B m d, .string t]
    rwa [World.size_alloc] at this
  have hz : ((w.alloc (.cells #[.slice A n c, .string s] 25)).alloc (.cells #[.slice B m d, .string t] 25)).heap.size = w.heap.size + 1 + 1 := by simp
  have HW : Hid (∀ W : World, RowKit.Below (w.heap.size + 1 + 1) ((w.alloc (.cells #[.slice A n c, .string s] 25)).alloc (.cells #[.slice B m d, .string t] 25)) W → RS W A n zs ∧ RS W B m ys ∧ W.cell? ⟨w.heap.size, 0, none⟩ = some (.slice A n c) ∧ W.cell? ⟨w.heap.size + 1, 0, none⟩ = some (.slice B m d)) := fun W hW =>
    ⟨(h.below hB0).below (by rw [hz]; exact hW), (h'.below hB0).below (by rw [hz]; exact hW), (hA0.below hW (by omega)).cell 0, (hA1.below hW (by omega)).cell 0⟩
  have HB0 := Lib.hid hB0
  have HL := Lib.hid h.len
  have HL' := Lib.hid h'.len
  have hst := beq_str s t
  clear hB0 hA0 hA1 hz h h'
  by_cases he : s = t
  · rw [decide_eq_true he] at hst
    rw [decide_eq_true he, Bool.and_true]
    clear he
    by_cases hnm : n = m
    · subst hnm
      go_enter Tryd.func18, Tryd.ntmps18
      go_wp2
      go_loopw [5] (fun i wr => ∃ k : Nat, k ≤ n ∧ i = .int .i64 k ∧ Hid (zs.take k = ys.take k) ∧ RowKit.Below (w.heap.size + 1 + 1) ((w.alloc (.cells #[.slice A n c, .string s] 25)).alloc (.cells #[.slice B n d, .string t] 25)) wr) (fun i _ => n - (intOf i).toNat)
      case atStart => exact ⟨0, Nat.zero_le _, rfl, Lib.hid rfl, RowKit.Below.refl _ _⟩
      case round =>
        obtain ⟨k, hk, rfl, HT, hbel⟩ := hrel
        obtain ⟨h, h', c0, c1⟩ := HW.out wr hbel
        by_cases hlt : k < n
        · obtain ⟨ad, x, rfl, hab, hs, hc⟩ := h.at_ hlt
          obtain ⟨ad', x', rfl, hab', hs', hc'⟩ := h'.at_ hlt
          have HS := Lib.hid hs
          have HS' := Lib.hid hs'
          have hki : (k : Int) < (n : Int) := by omega
          clear h h' hs hs'
          by_cases he : x = x'
          · have ht : (x.toList == x'.toList) = true := by rw [beq_str, decide_eq_true he]
            have HE := Lib.hid he
            clear he
            go_wp2
            go_quiet (fail)
            all_goals go_wp2
            go_roundw
            case rel =>
              refine ⟨k + 1, by omega, by go_num, ?_, below_drewN hbel _⟩
              show zs.take (k + 1) = ys.take (k + 1)
              rw [take_str zs HS.out, take_str ys HS'.out, HT.out, HE.out]
            case measure => simp [intOf]; omega
          · have ht : (x.toList == x'.toList) = false := by rw [beq_str, decide_eq_false he]
            go_wp2
            go_quiet (fail)
            all_goals go_wp2
            go_ret
            refine ⟨?_, HB0.out.trans ((below_drewN hbel _).mono (by omega))⟩
            rw [decide_eq_false (fun e => he (by
              have h1 := HS.out
              have h2 := HS'.out
              rw [e] at h1
              exact Option.some.inj (h1.symm.trans h2)))]
            rfl
        · obtain rfl : k = n := by omega
          have e : Hid (zs = ys) := by
            have h := HT.out
            rwa [List.take_of_length_le (by have := HL.out; omega), List.take_of_length_le (by have := HL'.out; omega)] at h
          have HD : Hid (decide (zs = ys) = true) := decide_eq_true e.out
          have HBE := Lib.hid (HB0.out.trans (hbel.mono (by omega)))
          clear h h' hbel
          go_wp2
          go_ret
          exact ⟨by rw [HD.out]; rfl, HBE.out⟩
    · have hb : ((n : Int) != (m : Int)) = true := by rw [bne_iff_ne]; omega
      have HD : Hid (decide (zs = ys) = false) := decide_eq_false (fun e => hnm (by rw [← HL.out, ← HL'.out, e]))
      go_enter Tryd.func18, Tryd.ntmps18
      go_wp2
      go_ret
      exact ⟨by rw [HD.out]; rfl, HB0.out⟩
  · rw [decide_eq_false he] at hst
    have hq : (decide (zs = ys) && decide (s = t)) = false := by rw [decide_eq_false he, Bool.and_false]
    rw [hq]
    clear he hq
    go_enter Tryd.func18, Tryd.ntmps18
    go_wp2
    go_ret
    exact ⟨rfl, HB0.out⟩
end

end Go.Proofs.YtlfbocmcbkcfhaaDoor
