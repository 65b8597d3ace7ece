/-
  Sa.
-/
import Derived.Test.YtlfbocmcbkcfhaaDoorUJ
import Derived.Test.YtlfbocmcbkcfhaaDoorUK
namespace Go.Proofs.YtlfbocmcbkcfhaaDoor
set_option maxRecDepth 100000
set_option linter.unusedVariables false
set_option linter.unusedSimpArgs false
set_option linter.unusedSectionVars false

/-! spec.l4Equal, spec.TreeSame, impl.TreeSame. -/
section
open Go.RowKit Go.Lib Go.Sort

theorem resL_inj {R R' : Option (List (List (Fin 4)) × List (Fin 4))} (h : R.isSome = true) (h' : R'.isSome = true) : (resL R = resL R' ∧ resE R = resE R') ↔ R = R' := by
  cases R with
  | none => cases h
  | some x =>
    cases R' with
    | none => cases h'
    | some y =>
      obtain ⟨S, u⟩ := x
      obtain ⟨S', u'⟩ := y
      constructor
      · rintro ⟨h1, h2⟩
        have h1 : S.map strOf = S'.map strOf := h1
        have h2 : strOf u = strOf u' := h2
        rw [strs_inj h1, strOf_inj h2]
      · intro e; rw [e]; exact ⟨rfl, rfl⟩
def SameQ (a b : ByteArray) : Prop := ∃ R, OfOk a R ∧ OfOk b R ∧ R.isSome = true
set_option maxHeartbeats 4000000 in
theorem l4Equal_any (A B : Option Addr) (n m c d : Nat) (zs ys : List ByteArray) (s t : ByteArray) (w : World) (h : RS w A n zs) (h' : RS w B m ys) (hn : n ≤ 1048576) :
    Calls Tryd.prog 63 #[.agg #[.slice A n c, .string s], .agg #[.slice B m d, .string t]] w fun e w' => e = .returned (.bool (decide (zs = ys) && decide (s = t))) ∧ RowKit.Below w.heap.size w w' := by
  have hB0 : RowKit.Below w.heap.size w ((w.alloc (.cells #[.slice A n c, .string s] 25)).alloc (.cells #[.slice B m d, .string t] 25)) := ((RowKit.Below.refl _ w).alloc (Nat.le_refl _) _).alloc (by simp) _
  have hA0 : Blk ((w.alloc (.cells #[.slice A n c, .string s] 25)).alloc (.cells #[.slice B m d, .string t] 25)) w.heap.size 25 #[.slice A n c, .string s] := (Blk.new w _ _).alloc _
  have hA1 : Blk ((w.alloc (.cells #[.slice A n c, .string s] 25)).alloc (.cells #[.slice B m d, .string t] 25)) (w.heap.size + 1) 25 #[.slice B m d, .string t] := by
    have := Blk.new (w.alloc (.cells #[.slice A n c, .string s] 25)) 25 #[.slice B m d, .string t]
    rwa [World.size_alloc] at this
  have hz : ((w.alloc (.cells #[.slice A n c, .string s] 25)).alloc (.cells #[.slice B m d, .string t] 25)).heap.size = w.heap.size + 1 + 1 := by simp
  have HW : Hid (∀ W : World, RowKit.Below (w.heap.size + 1 + 1) ((w.alloc (.cells #[.slice A n c, .string s] 25)).alloc (.cells #[.slice B m d, .string t] 25)) W → RS W A n zs ∧ RS W B m ys ∧ W.cell? ⟨w.heap.size, 0, none⟩ = some (.slice A n c) ∧ W.cell? ⟨w.heap.size + 1, 0, none⟩ = some (.slice B m d)) := fun W hW =>
    ⟨(h.below hB0).below (by rw [hz]; exact hW), (h'.below hB0).below (by rw [hz]; exact hW), (hA0.below hW (by omega)).cell 0, (hA1.below hW (by omega)).cell 0⟩
  have HB0 := Lib.hid hB0
  have HL := Lib.hid h.len
  have HL' := Lib.hid h'.len
  have hst := beq_str s t
  clear hB0 hA0 hA1 hz h h'
  by_cases he : s = t
  · rw [decide_eq_true he] at hst
    rw [decide_eq_true he, Bool.and_true]
    clear he
    by_cases hnm : n = m
    · subst hnm
      go_enter Tryd.func63, Tryd.ntmps63
      go_wp2
      go_loopw [5] (fun i wr => ∃ k : Nat, k ≤ n ∧ i = .int .i64 k ∧ Hid (zs.take k = ys.take k) ∧ RowKit.Below (w.heap.size + 1 + 1) ((w.alloc (.cells #[.slice A n c, .string s] 25)).alloc (.cells #[.slice B n d, .string t] 25)) wr) (fun i _ => n - (intOf i).toNat)
      case atStart => exact ⟨0, Nat.zero_le _, rfl, Lib.hid rfl, RowKit.Below.refl _ _⟩
      case round =>
        obtain ⟨k, hk, rfl, HT, hbel⟩ := hrel
        obtain ⟨h, h', c0, c1⟩ := HW.out wr hbel
        by_cases hlt : k < n
        · obtain ⟨ad, x, rfl, hab, hs, hc⟩ := h.at_ hlt
          obtain ⟨ad', x', rfl, hab', hs', hc'⟩ := h'.at_ hlt
          have HS := Lib.hid hs
          have HS' := Lib.hid hs'
          have hki : (k : Int) < (n : Int) := by omega
          clear h h' hs hs'
          by_cases he : x = x'
          · have ht : (x.toList == x'.toList) = true := by rw [beq_str, decide_eq_true he]
            have HE := Lib.hid he
            clear he
            go_wp2
            go_quiet (fail)
            all_goals go_wp2
            go_roundw
            case rel =>
              refine ⟨k + 1, by omega, by go_num, ?_, below_drewN hbel _⟩
              show zs.take (k + 1) = ys.take (k + 1)
              rw [take_str zs HS.out, take_str ys HS'.out, HT.out, HE.out]
            case measure => simp [intOf]; omega
          · have ht : (x.toList == x'.toList) = false := by rw [beq_str, decide_eq_false he]
            go_wp2
            go_quiet (fail)
            all_goals go_wp2
            go_ret
            refine ⟨?_, HB0.out.trans ((below_drewN hbel _).mono (by omega))⟩
            rw [decide_eq_false (fun e => he (by
              have h1 := HS.out
              have h2 := HS'.out
              rw [e] at h1
              exact Option.some.inj (h1.symm.trans h2)))]
            rfl
        · obtain rfl : k = n := by omega
          have e : Hid (zs = ys) := by
            have h := HT.out
            rwa [List.take_of_length_le (by have := HL.out; omega), List.take_of_length_le (by have := HL'.out; omega)] at h
          have HD : Hid (decide (zs = ys) = true) := decide_eq_true e.out
          have HBE := Lib.hid (HB0.out.trans (hbel.mono (by omega)))
          clear h h' hbel
          go_wp2
          go_ret
          exact ⟨by rw [HD.out]; rfl, HBE.out⟩
    · have hb : ((n : Int) != (m : Int)) = true := by rw [bne_iff_ne]; omega
      have HD : Hid (decide (zs = ys) = false) := decide_eq_false (fun e => hnm (by rw [← HL.out, ← HL'.out, e]))
      go_enter Tryd.func63, Tryd.ntmps63
      go_wp2
      go_ret
      exact ⟨by rw [HD.out]; rfl, HB0.out⟩
  · rw [decide_eq_false he] at hst
    have hq : (decide (zs = ys) && decide (s = t)) = false := by rw [decide_eq_false he, Bool.and_false]
    rw [hq]
    clear he hq
    go_enter Tryd.func63, Tryd.ntmps63
    go_wp2
    go_ret
    exact ⟨rfl, HB0.out⟩
set_option maxHeartbeats 2000000 in
theorem specSameT2_any (a b : ByteArray) (ha : a.size ≤ 1048576) (hb : b.size ≤ 1048576) (w : World) : Calls Tryd.prog 28 #[.string a, .string b] w (AskPost (SameQ a b) w) := by
  have HA := Lib.hid (specOfT_any a ha w)
  have HB := Lib.hid (fun W : World => specOfT_any b hb W)
  clear ha hb
  go_enter Tryd.func28, Tryd.ntmps28
  go_wp2_with fail
  refine HA.out.mono ?_
  rintro e w1 ⟨R, hR, hb1, A, n, c, rfl, ho1⟩
  have hB2 := hb1.alloc hb1.size (.cells #[.slice A n c, .string (resE R)] 25)
  have ho2 := ho1.alloc (.cells #[.slice A n c, .string (resE R)] 25)
  have hx2 := Blk.new w1 25 #[.slice A n c, .string (resE R)]
  have hz2 : (w1.alloc (.cells #[.slice A n c, .string (resE R)] 25)).heap.size = w1.heap.size + 1 := by simp
  have HC := Lib.hid (HB.out (w1.alloc (.cells #[.slice A n c, .string (resE R)] 25)))
  have HB2 := Lib.hid hB2
  have HO2 := Lib.hid ho2
  have HX2 := Lib.hid hx2
  have HZ2 := Lib.hid hz2
  have HR := Lib.hid hR
  clear hb1 ho1 hB2 ho2 hx2 hR hz2 HA HB
  generalize hrb : R.isSome = rb at *
  have HRB := Lib.hid hrb
  clear hrb
  go_wp2_with fail
  refine HC.out.mono ?_
  rintro e w3 ⟨R', hR', hb3, A', n', c', rfl, ho3⟩
  have hB4 := (HB2.out.trans (hb3.mono HB2.out.size)).alloc (HB2.out.trans (hb3.mono HB2.out.size)).size (.cells #[.slice A' n' c', .string (resE R')] 25)
  have ho4 := ho3.alloc (.cells #[.slice A' n' c', .string (resE R')] 25)
  have ho5 := (own_below0 HO2.out hb3).alloc (.cells #[.slice A' n' c', .string (resE R')] 25)
  have hx4 := HX2.out.below hb3 (by rw [HZ2.out]; omega)
  have x0 : w3.cell? ⟨w1.heap.size, 0, none⟩ = some (.slice A n c) := hx4.cell 0
  have x1 : w3.cell? ⟨w1.heap.size, 1, none⟩ = some (.string (resE R)) := hx4.cell 1
  have hxl := hx4.lt
  have hnl : n ≤ 1048576 ∧ n' ≤ 1048576 := by
    have h1 := ho4.1
    have h2 := ho5.1
    have key : ∀ (x : ByteArray) (Q : Option (List (List (Fin 4)) × List (Fin 4))), OfOk x Q → (resL Q).length ≤ 1048576 := fun x Q h => by
      rcases h with ⟨_, rfl⟩ | ⟨ws, S, _, hw, ho, hX, rfl⟩
      · simp [resL]
      · obtain ⟨ws', e, hl⟩ := word_txt hw
        have hT := tre_of ho hX
        have hws : ws.length ≤ 24 := by
          rename_i e0
          have := txt_inj (e0.symm.trans e)
          rw [this]; exact hl
        have := (sml_mem (sml_word hT.nd hws hX)).1
        simp [resL]; omega
    have k1 := key _ _ HR.out
    have k2 := key _ _ hR'
    simp only [svL_length, Nat.mul_one] at h1 h2
    omega
  have HS := Lib.hid (l4Equal_any A A' n n' c c' (resL R) (resL R') (resE R) (resE R') _ (RS.of_own ho5) (RS.of_own ho4) hnl.1)
  have HB4 := Lib.hid hB4
  have hz4 : w.heap.size ≤ (w3.alloc (.cells #[.slice A' n' c', .string (resE R')] 25)).heap.size := hB4.size
  have HZ4 := Lib.hid hz4
  have HR' := Lib.hid hR'
  clear hb3 ho3 hB4 ho4 ho5 hx4 hR' hnl hz4 HC
  generalize hrb' : R'.isSome = rb' at *
  have HRB' := Lib.hid hrb'
  clear hrb'
  cases rb with
  | false =>
    have HNO : Hid (¬ SameQ a b) := fun ⟨Q, h1, h2, h3⟩ => by
      have := HR.out.same h1
      subst this
      have := HRB.out
      rw [h3] at this; cases this
    clear HRB
    go_wp2
    go_ret
    exact ⟨false, rfl, no_iff HNO.out, HB4.out⟩
  | true =>
    cases rb' with
    | false =>
      have HNO : Hid (¬ SameQ a b) := fun ⟨Q, h1, h2, h3⟩ => by
        have := HR'.out.same h2
        subst this
        have := HRB'.out
        rw [h3] at this; cases this
      clear HRB'
      go_wp2
      go_ret
      exact ⟨false, rfl, no_iff HNO.out, HB4.out⟩
    | true =>
      have HQ : Hid ((decide (resL R = resL R') && decide (resE R = resE R')) = true ↔ SameQ a b) := by
        show _ ↔ _
        rw [Bool.and_eq_true, decide_eq_true_eq, decide_eq_true_eq, resL_inj HRB.out HRB'.out]
        constructor
        · intro e; subst e; exact ⟨R, HR.out, HR'.out, HRB.out⟩
        · rintro ⟨Q, h1, h2, _⟩; rw [HR.out.same h1, HR'.out.same h2]
      generalize (decide (resL R = resL R') && decide (resE R = resE R')) = q at *
      generalize resE R = s1 at *
      generalize resE R' = s2 at *
      clear HRB HRB'
      go_wp2_with fail
      refine HS.out.mono ?_
      rintro e w5 ⟨rfl, hb5⟩
      have HBE := Lib.hid (HB4.out.trans (hb5.mono HZ4.out))
      clear hb5 HS
      go_wp2
      go_ret
      exact ⟨q, rfl, HQ.out, HBE.out⟩
set_option maxHeartbeats 2000000 in
theorem implSameT2_any (a b : ByteArray) (ha : a.size ≤ 1048576) (hb : b.size ≤ 1048576) (w : World) : Calls Tryd.prog 27 #[.string a, .string b] w (AskPost (SameQ a b) w) := by
  have HA := Lib.hid (implOfT_any a ha w)
  have HB := Lib.hid (fun W : World => implOfT_any b hb W)
  clear ha hb
  go_enter Tryd.func27, Tryd.ntmps27
  go_wp2_with fail
  refine HA.out.mono ?_
  rintro e w1 ⟨R, hR, hb1, A, n, c, rfl, ho1⟩
  have hB2 := hb1.alloc hb1.size (.cells #[.slice A n c, .string (resE R)] 25)
  have ho2 := ho1.alloc (.cells #[.slice A n c, .string (resE R)] 25)
  have hx2 := Blk.new w1 25 #[.slice A n c, .string (resE R)]
  have hz2 : (w1.alloc (.cells #[.slice A n c, .string (resE R)] 25)).heap.size = w1.heap.size + 1 := by simp
  have HC := Lib.hid (HB.out (w1.alloc (.cells #[.slice A n c, .string (resE R)] 25)))
  have HB2 := Lib.hid hB2
  have HO2 := Lib.hid ho2
  have HX2 := Lib.hid hx2
  have HZ2 := Lib.hid hz2
  have HR := Lib.hid hR
  clear hb1 ho1 hB2 ho2 hx2 hR hz2 HA HB
  generalize hrb : R.isSome = rb at *
  have HRB := Lib.hid hrb
  clear hrb
  go_wp2_with fail
  refine HC.out.mono ?_
  rintro e w3 ⟨R', hR', hb3, A', n', c', rfl, ho3⟩
  have hB4 := (HB2.out.trans (hb3.mono HB2.out.size)).alloc (HB2.out.trans (hb3.mono HB2.out.size)).size (.cells #[.slice A' n' c', .string (resE R')] 25)
  have ho4 := ho3.alloc (.cells #[.slice A' n' c', .string (resE R')] 25)
  have ho5 := (own_below0 HO2.out hb3).alloc (.cells #[.slice A' n' c', .string (resE R')] 25)
  have hx4 := HX2.out.below hb3 (by rw [HZ2.out]; omega)
  have x0 : w3.cell? ⟨w1.heap.size, 0, none⟩ = some (.slice A n c) := hx4.cell 0
  have x1 : w3.cell? ⟨w1.heap.size, 1, none⟩ = some (.string (resE R)) := hx4.cell 1
  have hxl := hx4.lt
  have hnl : n ≤ 1048576 ∧ n' ≤ 1048576 := by
    have h1 := ho4.1
    have h2 := ho5.1
    have key : ∀ (x : ByteArray) (Q : Option (List (List (Fin 4)) × List (Fin 4))), OfOk x Q → (resL Q).length ≤ 1048576 := fun x Q h => by
      rcases h with ⟨_, rfl⟩ | ⟨ws, S, _, hw, ho, hX, rfl⟩
      · simp [resL]
      · obtain ⟨ws', e, hl⟩ := word_txt hw
        have hT := tre_of ho hX
        have hws : ws.length ≤ 24 := by
          rename_i e0
          have := txt_inj (e0.symm.trans e)
          rw [this]; exact hl
        have := (sml_mem (sml_word hT.nd hws hX)).1
        simp [resL]; omega
    have k1 := key _ _ HR.out
    have k2 := key _ _ hR'
    simp only [svL_length, Nat.mul_one] at h1 h2
    omega
  have HS := Lib.hid (implSameT_any A A' n n' c c' (resL R) (resL R') (resE R) (resE R') _ (RS.of_own ho5) (RS.of_own ho4) hnl.1)
  have HB4 := Lib.hid hB4
  have hz4 : w.heap.size ≤ (w3.alloc (.cells #[.slice A' n' c', .string (resE R')] 25)).heap.size := hB4.size
  have HZ4 := Lib.hid hz4
  have HR' := Lib.hid hR'
  clear hb3 ho3 hB4 ho4 ho5 hx4 hR' hnl hz4 HC
  generalize hrb' : R'.isSome = rb' at *
  have HRB' := Lib.hid hrb'
  clear hrb'
  cases rb with
  | false =>
    have HNO : Hid (¬ SameQ a b) := fun ⟨Q, h1, h2, h3⟩ => by
      have := HR.out.same h1
      subst this
      have := HRB.out
      rw [h3] at this; cases this
    clear HRB
    go_wp2
    go_ret
    exact ⟨false, rfl, no_iff HNO.out, HB4.out⟩
  | true =>
    cases rb' with
    | false =>
      have HNO : Hid (¬ SameQ a b) := fun ⟨Q, h1, h2, h3⟩ => by
        have := HR'.out.same h2
        subst this
        have := HRB'.out
        rw [h3] at this; cases this
      clear HRB'
      go_wp2
      go_ret
      exact ⟨false, rfl, no_iff HNO.out, HB4.out⟩
    | true =>
      have HQ : Hid ((decide (resL R = resL R') && decide (resE R = resE R')) = true ↔ SameQ a b) := by
        show _ ↔ _
        rw [Bool.and_eq_true, decide_eq_true_eq, decide_eq_true_eq, resL_inj HRB.out HRB'.out]
        constructor
        · intro e; subst e; exact ⟨R, HR.out, HR'.out, HRB.out⟩
        · rintro ⟨Q, h1, h2, _⟩; rw [HR.out.same h1, HR'.out.same h2]
      generalize (decide (resL R = resL R') && decide (resE R = resE R')) = q at *
      generalize resE R = s1 at *
      generalize resE R' = s2 at *
      clear HRB HRB'
      go_wp2_with fail
      refine HS.out.mono ?_
      rintro e w5 ⟨rfl, hb5⟩
      have HBE := Lib.hid (HB4.out.trans (hb5.mono HZ4.out))
      clear hb5 HS
      go_wp2
      go_ret
      exact ⟨q, rfl, HQ.out, HBE.out⟩
end

end Go.Proofs.YtlfbocmcbkcfhaaDoor
