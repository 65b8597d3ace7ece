/-
  Pairs of numbers, on both sides: products, order.
-/
import Derived.Test.YtdljndpobklkjaaDoorSm6
namespace Go.Proofs.YtdljndpobklkjaaDoor
set_option maxRecDepth 100000
set_option linter.unusedVariables false
open Go.RowKit

set_option maxHeartbeats 1000000 in
theorem number_any (n : Int) (w : World) : Calls Tryd.prog 46 #[.int .i64 n] w fun e w' => e = .returned (.bool (pnB n)) ∧ w' = w := by
  by_cases h0 : 0 ≤ n
  · by_cases h1 : n ≤ 1000
    · rw [show pnB n = true from pnB_iff.2 ⟨h0, h1⟩]
      go_enter Tryd.func46, Tryd.ntmps46
      go_wp2
      go_ret
      exact ⟨by try rfl, rfl⟩
    · rw [show pnB n = false by cases h : pnB n with | false => rfl | true => exact absurd (pnB_iff.1 h).2 h1]
      go_enter Tryd.func46, Tryd.ntmps46
      go_wp2
      go_ret
      exact ⟨by try rfl, rfl⟩
  · rw [show pnB n = false by cases h : pnB n with | false => rfl | true => exact absurd (pnB_iff.1 h).1 h0]
    go_enter Tryd.func46, Tryd.ntmps46
    go_wp2
    go_ret
    exact ⟨by try rfl, rfl⟩
set_option maxHeartbeats 1000000 in
theorem isPairNumber_any (n : Int) (w : World) : Calls Tryd.prog 67 #[.int .i64 n] w fun e w' => e = .returned (.bool (pnB n)) ∧ w' = w := by
  by_cases h0 : 0 ≤ n
  · by_cases h1 : n ≤ 1000
    · rw [show pnB n = true from pnB_iff.2 ⟨h0, h1⟩]
      go_enter Tryd.func67, Tryd.ntmps67
      go_wp2
      go_ret
      exact ⟨by try rfl, rfl⟩
    · rw [show pnB n = false by cases h : pnB n with | false => rfl | true => exact absurd (pnB_iff.1 h).2 h1]
      go_enter Tryd.func67, Tryd.ntmps67
      go_wp2
      go_ret
      exact ⟨by try rfl, rfl⟩
  · rw [show pnB n = false by cases h : pnB n with | false => rfl | true => exact absurd (pnB_iff.1 h).1 h0]
    go_enter Tryd.func67, Tryd.ntmps67
    go_wp2
    go_ret
    exact ⟨by try rfl, rfl⟩
set_option maxHeartbeats 1000000 in
theorem specPTimes_any (i j k l : Int) (w : World) : Calls Tryd.prog 16 #[.int .i64 i, .int .i64 j, .int .i64 k, .int .i64 l] w fun e w' => e = .returned (.tuple #[.int .i64 (timesP i j k l).1, .int .i64 (timesP i j k l).2.1, .bool (timesP i j k l).2.2]) ∧ w' = w := by
  have HN := Lib.hid (fun n W => number_any n W)
  have HE : Hid (timesP i j k l = if (pnB i && pnB j && pnB k && pnB l && pnB (i + max j k - j) && pnB (l + max j k - k)) = true then (i + max j k - j, l + max j k - k, true) else (0, 0, false)) := rfl
  have H1 := Lib.hid (fun W => HN.out i W)
  have H2 := Lib.hid (fun W => HN.out j W)
  have H3 := Lib.hid (fun W => HN.out k W)
  have H4 := Lib.hid (fun W => HN.out l W)
  have H5 := Lib.hid (fun W => HN.out (i + max j k - j) W)
  have H6 := Lib.hid (fun W => HN.out (l + max j k - k) W)
  have HI : Hid ((pnB i = true → 0 ≤ i ∧ i ≤ 1000) ∧ (pnB j = true → 0 ≤ j ∧ j ≤ 1000) ∧ (pnB k = true → 0 ≤ k ∧ k ≤ 1000) ∧ (pnB l = true → 0 ≤ l ∧ l ≤ 1000)) := ⟨pnB_iff.1, pnB_iff.1, pnB_iff.1, pnB_iff.1⟩
  rw [HE.out]
  clear HE HN
  generalize pnB i = bi at *
  generalize pnB j = bj at *
  generalize pnB k = bk at *
  generalize pnB l = bl at *
  generalize pnB (i + max j k - j) = ba at *
  generalize pnB (l + max j k - k) = bb at *
  cases bi with
  | false =>
    simp only [Bool.false_and, Bool.false_eq_true, if_false]
    clear HI
    go_enter Tryd.func16, Tryd.ntmps16
    go_wp2_with fail
    refine (H1.out _).mono ?_
    rintro e w1 ⟨rfl, hw⟩
    subst hw
    go_wp2
    exact bodyPost_ret (v := .tuple #[.int .i64 0, .int .i64 0, .bool false]) (by simp [results, Tryd.results16, go_sem]) rfl ⟨by try rfl, rfl⟩
  | true =>
    cases bj with
    | false =>
      simp only [Bool.false_and, Bool.and_false, Bool.false_eq_true, if_false]
      clear HI
      go_enter Tryd.func16, Tryd.ntmps16
      go_wp2_with fail
      refine (H1.out _).mono ?_
      rintro e w2 ⟨rfl, hw⟩
      subst hw
      go_wp2_with fail
      refine (H2.out _).mono ?_
      rintro e w3 ⟨rfl, hw⟩
      subst hw
      go_wp2
      exact bodyPost_ret (v := .tuple #[.int .i64 0, .int .i64 0, .bool false]) (by simp [results, Tryd.results16, go_sem]) rfl ⟨by try rfl, rfl⟩
    | true =>
      cases bk with
      | false =>
        simp only [Bool.false_and, Bool.and_false, Bool.and_true, Bool.false_eq_true, if_false]
        clear HI
        go_enter Tryd.func16, Tryd.ntmps16
        go_wp2_with fail
        refine (H1.out _).mono ?_
        rintro e w4 ⟨rfl, hw⟩
        subst hw
        go_wp2_with fail
        refine (H2.out _).mono ?_
        rintro e w5 ⟨rfl, hw⟩
        subst hw
        go_wp2_with fail
        refine (H3.out _).mono ?_
        rintro e w6 ⟨rfl, hw⟩
        subst hw
        go_wp2
        exact bodyPost_ret (v := .tuple #[.int .i64 0, .int .i64 0, .bool false]) (by simp [results, Tryd.results16, go_sem]) rfl ⟨by try rfl, rfl⟩
      | true =>
        cases bl with
        | false =>
          simp only [Bool.false_and, Bool.and_false, Bool.and_true, Bool.false_eq_true, if_false]
          clear HI
          go_enter Tryd.func16, Tryd.ntmps16
          go_wp2_with fail
          refine (H1.out _).mono ?_
          rintro e w7 ⟨rfl, hw⟩
          subst hw
          go_wp2_with fail
          refine (H2.out _).mono ?_
          rintro e w8 ⟨rfl, hw⟩
          subst hw
          go_wp2_with fail
          refine (H3.out _).mono ?_
          rintro e w9 ⟨rfl, hw⟩
          subst hw
          go_wp2_with fail
          refine (H4.out _).mono ?_
          rintro e w10 ⟨rfl, hw⟩
          subst hw
          go_wp2
          exact bodyPost_ret (v := .tuple #[.int .i64 0, .int .i64 0, .bool false]) (by simp [results, Tryd.results16, go_sem]) rfl ⟨by try rfl, rfl⟩
        | true =>
          cases ba with
          | false =>
            simp only [Bool.false_and, Bool.and_false, Bool.and_true, Bool.false_eq_true, if_false]
            obtain ⟨hi0, hi1⟩ := HI.out.1 rfl
            obtain ⟨hj0, hj1⟩ := HI.out.2.1 rfl
            obtain ⟨hk0, hk1⟩ := HI.out.2.2.1 rfl
            obtain ⟨hl0, hl1⟩ := HI.out.2.2.2 rfl
            clear HI
            go_enter Tryd.func16, Tryd.ntmps16
            go_wp2_with fail
            refine (H1.out _).mono ?_
            rintro e w11 ⟨rfl, hw⟩
            subst hw
            go_wp2_with fail
            refine (H2.out _).mono ?_
            rintro e w12 ⟨rfl, hw⟩
            subst hw
            go_wp2_with fail
            refine (H3.out _).mono ?_
            rintro e w13 ⟨rfl, hw⟩
            subst hw
            go_wp2_with fail
            refine (H4.out _).mono ?_
            rintro e w14 ⟨rfl, hw⟩
            subst hw
            go_wp2_with fail
            refine (H5.out _).mono ?_
            rintro e w15 ⟨rfl, hw⟩
            subst hw
            go_wp2
            exact bodyPost_ret (v := .tuple #[.int .i64 0, .int .i64 0, .bool false]) (by simp [results, Tryd.results16, go_sem]) rfl ⟨by try rfl, rfl⟩
          | true =>
            cases bb with
            | false =>
              simp only [Bool.and_false, Bool.and_true, Bool.false_eq_true, if_false]
              obtain ⟨hi0, hi1⟩ := HI.out.1 rfl
              obtain ⟨hj0, hj1⟩ := HI.out.2.1 rfl
              obtain ⟨hk0, hk1⟩ := HI.out.2.2.1 rfl
              obtain ⟨hl0, hl1⟩ := HI.out.2.2.2 rfl
              clear HI
              go_enter Tryd.func16, Tryd.ntmps16
              go_wp2_with fail
              refine (H1.out _).mono ?_
              rintro e w16 ⟨rfl, hw⟩
              subst hw
              go_wp2_with fail
              refine (H2.out _).mono ?_
              rintro e w17 ⟨rfl, hw⟩
              subst hw
              go_wp2_with fail
              refine (H3.out _).mono ?_
              rintro e w18 ⟨rfl, hw⟩
              subst hw
              go_wp2_with fail
              refine (H4.out _).mono ?_
              rintro e w19 ⟨rfl, hw⟩
              subst hw
              go_wp2_with fail
              refine (H5.out _).mono ?_
              rintro e w20 ⟨rfl, hw⟩
              subst hw
              go_wp2_with fail
              refine (H6.out _).mono ?_
              rintro e w21 ⟨rfl, hw⟩
              subst hw
              go_wp2
              exact bodyPost_ret (v := .tuple #[.int .i64 0, .int .i64 0, .bool false]) (by simp [results, Tryd.results16, go_sem]) rfl ⟨by try rfl, rfl⟩
            | true =>
              simp only [Bool.and_true, if_true]
              obtain ⟨hi0, hi1⟩ := HI.out.1 rfl
              obtain ⟨hj0, hj1⟩ := HI.out.2.1 rfl
              obtain ⟨hk0, hk1⟩ := HI.out.2.2.1 rfl
              obtain ⟨hl0, hl1⟩ := HI.out.2.2.2 rfl
              clear HI
              go_enter Tryd.func16, Tryd.ntmps16
              go_wp2_with fail
              refine (H1.out _).mono ?_
              rintro e w22 ⟨rfl, hw⟩
              subst hw
              go_wp2_with fail
              refine (H2.out _).mono ?_
              rintro e w23 ⟨rfl, hw⟩
              subst hw
              go_wp2_with fail
              refine (H3.out _).mono ?_
              rintro e w24 ⟨rfl, hw⟩
              subst hw
              go_wp2_with fail
              refine (H4.out _).mono ?_
              rintro e w25 ⟨rfl, hw⟩
              subst hw
              go_wp2_with fail
              refine (H5.out _).mono ?_
              rintro e w26 ⟨rfl, hw⟩
              subst hw
              go_wp2_with fail
              refine (H6.out _).mono ?_
              rintro e w27 ⟨rfl, hw⟩
              subst hw
              go_wp2
              exact bodyPost_ret (v := .tuple #[.int .i64 (i + max j k - j), .int .i64 (l + max j k - k), .bool true]) (by simp [results, Tryd.results16, go_sem]) rfl ⟨by try rfl, rfl⟩
set_option maxHeartbeats 1000000 in
theorem specPBelow_any (i j k l : Int) (w : World) : Calls Tryd.prog 22 #[.int .i64 i, .int .i64 j, .int .i64 k, .int .i64 l] w fun e w' => e = .returned (.bool (belP i j k l)) ∧ w' = w := by
  have HN := Lib.hid (fun n W => number_any n W)
  have HE : Hid (belP i j k l = (pnB i && pnB j && pnB k && pnB l && decide (i - k = j - l) && decide (k ≤ i))) := rfl
  have H1 := Lib.hid (fun W => HN.out i W)
  have H2 := Lib.hid (fun W => HN.out j W)
  have H3 := Lib.hid (fun W => HN.out k W)
  have H4 := Lib.hid (fun W => HN.out l W)
  have HI : Hid ((pnB i = true → 0 ≤ i ∧ i ≤ 1000) ∧ (pnB j = true → 0 ≤ j ∧ j ≤ 1000) ∧ (pnB k = true → 0 ≤ k ∧ k ≤ 1000) ∧ (pnB l = true → 0 ≤ l ∧ l ≤ 1000)) := ⟨pnB_iff.1, pnB_iff.1, pnB_iff.1, pnB_iff.1⟩
  rw [HE.out]
  clear HE HN
  generalize pnB i = bi at *
  generalize pnB j = bj at *
  generalize pnB k = bk at *
  generalize pnB l = bl at *
  cases bi with
  | false =>
    simp only [Bool.false_and]
    clear HI
    go_enter Tryd.func22, Tryd.ntmps22
    go_wp2_with fail
    refine (H1.out _).mono ?_
    rintro e w32 ⟨rfl, hw⟩
    subst hw
    go_wp2
    go_ret
    exact ⟨by first | rfl | simp_all, rfl⟩
  | true =>
    cases bj with
    | false =>
      simp only [Bool.false_and, Bool.and_false]
      clear HI
      go_enter Tryd.func22, Tryd.ntmps22
      go_wp2_with fail
      refine (H1.out _).mono ?_
      rintro e w33 ⟨rfl, hw⟩
      subst hw
      go_wp2_with fail
      refine (H2.out _).mono ?_
      rintro e w34 ⟨rfl, hw⟩
      subst hw
      go_wp2
      go_ret
      exact ⟨by first | rfl | simp_all, rfl⟩
    | true =>
      cases bk with
      | false =>
        simp only [Bool.false_and, Bool.and_false, Bool.and_true]
        clear HI
        go_enter Tryd.func22, Tryd.ntmps22
        go_wp2_with fail
        refine (H1.out _).mono ?_
        rintro e w35 ⟨rfl, hw⟩
        subst hw
        go_wp2_with fail
        refine (H2.out _).mono ?_
        rintro e w36 ⟨rfl, hw⟩
        subst hw
        go_wp2_with fail
        refine (H3.out _).mono ?_
        rintro e w37 ⟨rfl, hw⟩
        subst hw
        go_wp2
        go_ret
        exact ⟨by first | rfl | simp_all, rfl⟩
      | true =>
        cases bl with
        | false =>
          simp only [Bool.false_and, Bool.and_false, Bool.and_true]
          clear HI
          go_enter Tryd.func22, Tryd.ntmps22
          go_wp2_with fail
          refine (H1.out _).mono ?_
          rintro e w38 ⟨rfl, hw⟩
          subst hw
          go_wp2_with fail
          refine (H2.out _).mono ?_
          rintro e w39 ⟨rfl, hw⟩
          subst hw
          go_wp2_with fail
          refine (H3.out _).mono ?_
          rintro e w40 ⟨rfl, hw⟩
          subst hw
          go_wp2_with fail
          refine (H4.out _).mono ?_
          rintro e w41 ⟨rfl, hw⟩
          subst hw
          go_wp2
          go_ret
          exact ⟨by first | rfl | simp_all, rfl⟩
        | true =>
          obtain ⟨hi0, hi1⟩ := HI.out.1 rfl
          obtain ⟨hj0, hj1⟩ := HI.out.2.1 rfl
          obtain ⟨hk0, hk1⟩ := HI.out.2.2.1 rfl
          obtain ⟨hl0, hl1⟩ := HI.out.2.2.2 rfl
          clear HI
          by_cases hd : i - k = j - l
          · by_cases hc : k ≤ i
            · rw [decide_eq_true hd, decide_eq_true hc]
              simp only [Bool.and_true]
              go_enter Tryd.func22, Tryd.ntmps22
              go_wp2_with fail
              refine (H1.out _).mono ?_
              rintro e w28 ⟨rfl, hw⟩
              subst hw
              go_wp2_with fail
              refine (H2.out _).mono ?_
              rintro e w29 ⟨rfl, hw⟩
              subst hw
              go_wp2_with fail
              refine (H3.out _).mono ?_
              rintro e w30 ⟨rfl, hw⟩
              subst hw
              go_wp2_with fail
              refine (H4.out _).mono ?_
              rintro e w31 ⟨rfl, hw⟩
              subst hw
              go_wp2
              go_ret
              exact ⟨by try rfl, rfl⟩
            · have hcd : decide (k ≤ i) = false := decide_eq_false hc
              rw [decide_eq_true hd, hcd]
              simp only [Bool.and_false, Bool.and_true]
              go_enter Tryd.func22, Tryd.ntmps22
              go_wp2_with fail
              refine (H1.out _).mono ?_
              rintro e w28 ⟨rfl, hw⟩
              subst hw
              go_wp2_with fail
              refine (H2.out _).mono ?_
              rintro e w29 ⟨rfl, hw⟩
              subst hw
              go_wp2_with fail
              refine (H3.out _).mono ?_
              rintro e w30 ⟨rfl, hw⟩
              subst hw
              go_wp2_with fail
              refine (H4.out _).mono ?_
              rintro e w31 ⟨rfl, hw⟩
              subst hw
              go_wp2
              go_ret
              exact ⟨by try rfl, rfl⟩
          · rw [decide_eq_false hd]
            simp only [Bool.false_and, Bool.and_false, Bool.and_true]
            go_enter Tryd.func22, Tryd.ntmps22
            go_wp2_with fail
            refine (H1.out _).mono ?_
            rintro e w28 ⟨rfl, hw⟩
            subst hw
            go_wp2_with fail
            refine (H2.out _).mono ?_
            rintro e w29 ⟨rfl, hw⟩
            subst hw
            go_wp2_with fail
            refine (H3.out _).mono ?_
            rintro e w30 ⟨rfl, hw⟩
            subst hw
            go_wp2_with fail
            refine (H4.out _).mono ?_
            rintro e w31 ⟨rfl, hw⟩
            subst hw
            go_wp2
            go_ret
            exact ⟨by try rfl, rfl⟩
theorem ta_nps (W : World) : (Instr.typeAssert .nilIface 49 46 true).run Tryd.prog W = .ok (.tuple #[.agg #[.int .i64 0, .int .i64 0], .bool false]) W := by kernel_rfl
theorem ta_pi (v : Value) (W : World) : (Instr.typeAssert (.iface 46 v) 49 46 true).run Tryd.prog W = .ok (.tuple #[v, .bool true]) W := by kernel_rfl
theorem belp1 (w : World) (a : Array Value) : Below w.heap.size w (w.alloc (.cells a 46)) := (Below.refl _ _).alloc (Nat.le_refl _) _
theorem bel_al' {w w' : World} (h : Below w.heap.size w w') (o : Obj) : Below w.heap.size w (w'.alloc o) := h.alloc h.size o
def mvP (i j : Int) : Value := .iface 46 (.agg #[.int .i64 i, .int .i64 j])
set_option maxHeartbeats 1000000 in
theorem toldP_any (i j : Int) (w : World) : Calls Tryd.prog 54 #[.iface 46 (.agg #[.int .i64 i, .int .i64 j])] w fun e w' => e = .returned (.bool (pnB i && pnB j)) ∧ Below w.heap.size w w' := by
  have H1 := Lib.hid (fun W => isPairNumber_any i W)
  have H2 := Lib.hid (fun W => isPairNumber_any j W)
  have a1 := ta_pi (.agg #[.int .i64 i, .int .i64 j])
  generalize pnB i = bi at *
  generalize pnB j = bj at *
  cases bi with
  | false =>
    go_enter Tryd.func54, Tryd.ntmps54
    go_wp2_with fail
    refine (H1.out _).mono ?_
    rintro e w1 ⟨rfl, hw⟩
    subst hw
    go_wp2
    go_ret
    exact ⟨by try rfl, belp1 w _⟩
  | true =>
    cases bj with
    | false =>
      go_enter Tryd.func54, Tryd.ntmps54
      go_wp2_with fail
      refine (H1.out _).mono ?_
      rintro e w1 ⟨rfl, hw⟩
      subst hw
      go_wp2_with fail
      refine (H2.out _).mono ?_
      rintro e w1 ⟨rfl, hw⟩
      subst hw
      go_wp2
      go_ret
      exact ⟨by try rfl, belp1 w _⟩
    | true =>
      go_enter Tryd.func54, Tryd.ntmps54
      go_wp2_with fail
      refine (H1.out _).mono ?_
      rintro e w1 ⟨rfl, hw⟩
      subst hw
      go_wp2_with fail
      refine (H2.out _).mono ?_
      rintro e w1 ⟨rfl, hw⟩
      subst hw
      go_wp2
      go_ret
      exact ⟨by try rfl, belp1 w _⟩
set_option maxHeartbeats 1000000 in
theorem toldN_any (w : World) : Calls Tryd.prog 54 #[.nilIface] w fun e w' => e = .returned (.bool false) ∧ w' = w := by
  have a1 := ta_np
  have a2 := ta_ns
  go_enter Tryd.func54, Tryd.ntmps54
  go_wp2
  go_ret
  exact ⟨by try rfl, rfl⟩
theorem mth_tp (v : Value) (w : World) : (method 211 46 v "loop.example/partialcharts/impl.times").run Tryd.prog w = .ok (104, v) w := by kernel_rfl
theorem nil_tp (v : Value) (w : World) : (nilAhead 211 46 v "loop.example/partialcharts/impl.times").run Tryd.prog w = .ok (some false) w := by kernel_rfl
theorem mth_bp (v : Value) (w : World) : (method 211 46 v "loop.example/partialcharts/impl.below").run Tryd.prog w = .ok (103, v) w := by kernel_rfl
theorem nil_bp (v : Value) (w : World) : (nilAhead 211 46 v "loop.example/partialcharts/impl.below").run Tryd.prog w = .ok (some false) w := by kernel_rfl
set_option maxHeartbeats 1000000 in
theorem ptimes_any (i j k l : Int) (hi0 : 0 ≤ i) (hi1 : i ≤ 1000) (hj0 : 0 ≤ j) (hj1 : j ≤ 1000) (hk0 : 0 ≤ k) (hk1 : k ≤ 1000) (hl0 : 0 ≤ l) (hl1 : l ≤ 1000) (w : World) : Calls Tryd.prog 104 #[.agg #[.int .i64 i, .int .i64 j], .iface 46 (.agg #[.int .i64 k, .int .i64 l])] w fun e w' => e = .returned (.iface 46 (.agg #[.int .i64 (i + max j k - j), .int .i64 (l + max j k - k)])) ∧ Below w.heap.size w w' := by
  have a1 := ta_pi (.agg #[.int .i64 k, .int .i64 l])
  go_enter Tryd.func104, Tryd.ntmps104
  go_wp2
  go_ret
  exact ⟨by try rfl, bel_al' (belp1 w _) _⟩
set_option maxHeartbeats 1000000 in
theorem pbelow_any (i j k l : Int) (hi0 : 0 ≤ i) (hi1 : i ≤ 1000) (hj0 : 0 ≤ j) (hj1 : j ≤ 1000) (hk0 : 0 ≤ k) (hk1 : k ≤ 1000) (hl0 : 0 ≤ l) (hl1 : l ≤ 1000) (w : World) : Calls Tryd.prog 103 #[.agg #[.int .i64 i, .int .i64 j], .iface 46 (.agg #[.int .i64 k, .int .i64 l])] w fun e w' => e = .returned (.bool (decide (i - k = j - l) && decide (k ≤ i))) ∧ Below w.heap.size w w' := by
  have a1 := ta_pi (.agg #[.int .i64 k, .int .i64 l])
  by_cases hc : k ≤ i
  · by_cases hd : i - k = j - l
    · rw [decide_eq_true hd, decide_eq_true hc]
      go_enter Tryd.func103, Tryd.ntmps103
      go_wp2
      go_ret
      exact ⟨by try rfl, bel_al' (belp1 w _) _⟩
    · rw [decide_eq_false hd, Bool.false_and]
      have hd2 : ((i - k) == (j - l)) = false := by simpa using hd
      go_enter Tryd.func103, Tryd.ntmps103
      go_wp2
      go_ret
      exact ⟨by try rfl, bel_al' (belp1 w _) _⟩
  · rw [decide_eq_false hc, Bool.and_false]
    go_enter Tryd.func103, Tryd.ntmps103
    go_wp2
    go_ret
    exact ⟨by try rfl, bel_al' (belp1 w _) _⟩
/-- a product of pairs as a mover, or nil -/
def ppV (x : Int × Int × Bool) : Value := if x.2.2 = true then .iface 46 (.agg #[.int .i64 x.1, .int .i64 x.2.1]) else .nilIface
set_option maxHeartbeats 1000000 in
theorem productP_any (i j k l : Int) (w : World) : Calls Tryd.prog 45 #[.iface 46 (.agg #[.int .i64 i, .int .i64 j]), .iface 46 (.agg #[.int .i64 k, .int .i64 l])] w fun e w' => e = .returned (ppV (timesP i j k l)) ∧ Below w.heap.size w w' := by
  have H1 := Lib.hid (fun W => toldP_any i j W)
  have H2 := Lib.hid (fun W => toldP_any k l W)
  have H3 := Lib.hid (fun W => toldP_any (i + max j k - j) (l + max j k - k) W)
  have HE : Hid (timesP i j k l = if (pnB i && pnB j && pnB k && pnB l && pnB (i + max j k - j) && pnB (l + max j k - k)) = true then (i + max j k - j, l + max j k - k, true) else (0, 0, false)) := rfl
  have m1 := mth_tp (.agg #[.int .i64 i, .int .i64 j])
  have m2 := nil_tp (.agg #[.int .i64 i, .int .i64 j])
  have HT : Hid ((pnB i && pnB j) = true → (pnB k && pnB l) = true → ∀ W, Calls Tryd.prog 104 #[.agg #[.int .i64 i, .int .i64 j], .iface 46 (.agg #[.int .i64 k, .int .i64 l])] W fun e w' => e = .returned (.iface 46 (.agg #[.int .i64 (i + max j k - j), .int .i64 (l + max j k - k)])) ∧ Below W.heap.size W w') := fun h1 h2 W => by
    rw [Bool.and_eq_true, pnB_iff, pnB_iff] at h1 h2
    exact ptimes_any i j k l h1.1.1 h1.1.2 h1.2.1 h1.2.2 h2.1.1 h2.1.2 h2.2.1 h2.2.2 W
  have HX : Hid ((pnB i && pnB j && pnB k && pnB l && pnB (i + max j k - j) && pnB (l + max j k - k)) = ((pnB i && pnB j) && (pnB k && pnB l) && (pnB (i + max j k - j) && pnB (l + max j k - k)))) := by
    show _ = _
    simp only [Bool.and_assoc]
  rw [HE.out, HX.out]
  clear HE HX
  generalize (pnB i && pnB j) = b1 at *
  generalize (pnB k && pnB l) = b2 at *
  generalize (pnB (i + max j k - j) && pnB (l + max j k - k)) = b3 at *
  generalize i + max j k - j = a at *
  generalize l + max j k - k = b at *
  cases b1 with
  | false =>
    simp only [Bool.false_and, Bool.false_eq_true, if_false]
    clear HT
    rw [show ppV ((0, 0, false)) = .nilIface from rfl]
    go_enter Tryd.func45, Tryd.ntmps45
    go_wp2_with fail
    refine (H1.out _).mono ?_
    rintro e w1 ⟨rfl, hb⟩
    have HB := Lib.hid hb
    clear hb H1
    go_wp2
    go_ret
    exact ⟨by try rfl, HB.out⟩
  | true =>
    cases b2 with
    | false =>
      simp only [Bool.false_and, Bool.and_false, Bool.false_eq_true, if_false]
      clear HT
      rw [show ppV ((0, 0, false)) = .nilIface from rfl]
      go_enter Tryd.func45, Tryd.ntmps45
      go_wp2_with fail
      refine (H1.out _).mono ?_
      rintro e w1 ⟨rfl, hb⟩
      have HB := Lib.hid hb
      clear hb H1
      go_wp2_with fail
      refine (H2.out _).mono ?_
      rintro e w2 ⟨rfl, hb⟩
      have HB := Lib.hid (HB.out.trans (hb.mono HB.out.size))
      clear hb H2
      go_wp2
      go_ret
      exact ⟨by try rfl, HB.out⟩
    | true =>
      cases b3 with
      | false =>
        simp only [Bool.and_false, Bool.and_true, Bool.false_eq_true, if_false]
        have HT1 := Lib.hid (HT.out rfl rfl)
        clear HT
        rw [show ppV ((0, 0, false)) = .nilIface from rfl]
        go_enter Tryd.func45, Tryd.ntmps45
        go_wp2_with fail
        refine (H1.out _).mono ?_
        rintro e w1 ⟨rfl, hb⟩
        have HB := Lib.hid hb
        clear hb H1
        go_wp2_with fail
        refine (H2.out _).mono ?_
        rintro e w2 ⟨rfl, hb⟩
        have HB := Lib.hid (HB.out.trans (hb.mono HB.out.size))
        clear hb H2
        go_wp2_with fail
        refine (HT1.out _).mono ?_
        rintro e w3 ⟨rfl, hb⟩
        have HB := Lib.hid (HB.out.trans (hb.mono HB.out.size))
        clear hb HT1
        go_wp2_with fail
        refine (H3.out _).mono ?_
        rintro e w4 ⟨rfl, hb⟩
        have HB := Lib.hid (HB.out.trans (hb.mono HB.out.size))
        clear hb H3
        go_wp2
        go_ret
        exact ⟨by try rfl, HB.out⟩
      | true =>
        simp only [Bool.and_true, if_true]
        have HT1 := Lib.hid (HT.out rfl rfl)
        clear HT
        rw [show ppV ((a, b, true)) = .iface 46 (.agg #[.int .i64 a, .int .i64 b]) from rfl]
        go_enter Tryd.func45, Tryd.ntmps45
        go_wp2_with fail
        refine (H1.out _).mono ?_
        rintro e w1 ⟨rfl, hb⟩
        have HB := Lib.hid hb
        clear hb H1
        go_wp2_with fail
        refine (H2.out _).mono ?_
        rintro e w2 ⟨rfl, hb⟩
        have HB := Lib.hid (HB.out.trans (hb.mono HB.out.size))
        clear hb H2
        go_wp2_with fail
        refine (HT1.out _).mono ?_
        rintro e w3 ⟨rfl, hb⟩
        have HB := Lib.hid (HB.out.trans (hb.mono HB.out.size))
        clear hb HT1
        go_wp2_with fail
        refine (H3.out _).mono ?_
        rintro e w4 ⟨rfl, hb⟩
        have HB := Lib.hid (HB.out.trans (hb.mono HB.out.size))
        clear hb H3
        go_wp2
        go_ret
        exact ⟨by try rfl, HB.out⟩
set_option maxHeartbeats 1000000 in
theorem productN1_any (v : Value) (w : World) : Calls Tryd.prog 45 #[.nilIface, v] w fun e w' => e = .returned (.nilIface) ∧ Below w.heap.size w w' := by
  have H1 := Lib.hid (fun W => toldN_any W)
  go_enter Tryd.func45, Tryd.ntmps45
  go_wp2_with fail
  refine (H1.out _).mono ?_
  rintro e w1 ⟨rfl, hw⟩
  subst hw
  go_wp2
  go_ret
  exact ⟨by try rfl, Below.refl _ _⟩
set_option maxHeartbeats 1000000 in
theorem productN2_any (i j : Int) (w : World) : Calls Tryd.prog 45 #[.iface 46 (.agg #[.int .i64 i, .int .i64 j]), .nilIface] w fun e w' => e = .returned (.nilIface) ∧ Below w.heap.size w w' := by
  have H1 := Lib.hid (fun W => toldP_any i j W)
  have H2 := Lib.hid (fun W => toldN_any W)
  generalize (pnB i && pnB j) = b1 at *
  cases b1 with
  | false =>
    go_enter Tryd.func45, Tryd.ntmps45
    go_wp2_with fail
    refine (H1.out _).mono ?_
    rintro e w1 ⟨rfl, hb⟩
    have HB := Lib.hid hb
    clear hb
    go_wp2
    go_ret
    exact ⟨by try rfl, HB.out⟩
  | true =>
    go_enter Tryd.func45, Tryd.ntmps45
    go_wp2_with fail
    refine (H1.out _).mono ?_
    rintro e w1 ⟨rfl, hb⟩
    have HB := Lib.hid hb
    clear hb
    go_wp2_with fail
    refine (H2.out _).mono ?_
    rintro e w2 ⟨rfl, hw⟩
    subst hw
    go_wp2
    go_ret
    exact ⟨by try rfl, HB.out⟩
set_option maxHeartbeats 1000000 in
theorem isBelowP_any (i j k l : Int) (w : World) : Calls Tryd.prog 52 #[.iface 46 (.agg #[.int .i64 i, .int .i64 j]), .iface 46 (.agg #[.int .i64 k, .int .i64 l])] w fun e w' => e = .returned (.bool (belP i j k l)) ∧ Below w.heap.size w w' := by
  have H1 := Lib.hid (fun W => toldP_any i j W)
  have H2 := Lib.hid (fun W => toldP_any k l W)
  have HE : Hid (belP i j k l = (pnB i && pnB j && pnB k && pnB l && decide (i - k = j - l) && decide (k ≤ i))) := rfl
  have m1 := mth_bp (.agg #[.int .i64 i, .int .i64 j])
  have m2 := nil_bp (.agg #[.int .i64 i, .int .i64 j])
  have HT : Hid ((pnB i && pnB j) = true → (pnB k && pnB l) = true → ∀ W, Calls Tryd.prog 103 #[.agg #[.int .i64 i, .int .i64 j], .iface 46 (.agg #[.int .i64 k, .int .i64 l])] W fun e w' => e = .returned (.bool (decide (i - k = j - l) && decide (k ≤ i))) ∧ Below W.heap.size W w') := fun h1 h2 W => by
    rw [Bool.and_eq_true, pnB_iff, pnB_iff] at h1 h2
    exact pbelow_any i j k l h1.1.1 h1.1.2 h1.2.1 h1.2.2 h2.1.1 h2.1.2 h2.2.1 h2.2.2 W
  have HX : Hid ((pnB i && pnB j && pnB k && pnB l && decide (i - k = j - l) && decide (k ≤ i)) = ((pnB i && pnB j) && (pnB k && pnB l) && (decide (i - k = j - l) && decide (k ≤ i)))) := by
    show _ = _
    simp only [Bool.and_assoc]
  rw [HE.out, HX.out]
  clear HE HX
  generalize (pnB i && pnB j) = b1 at *
  generalize (pnB k && pnB l) = b2 at *
  generalize (decide (i - k = j - l) && decide (k ≤ i)) = b3 at *
  cases b1 with
  | false =>
    simp only [Bool.false_and]
    clear HT
    go_enter Tryd.func52, Tryd.ntmps52
    go_wp2_with fail
    refine (H1.out _).mono ?_
    rintro e w1 ⟨rfl, hb⟩
    have HB := Lib.hid hb
    clear hb H1
    go_wp2
    go_ret
    exact ⟨by try rfl, HB.out⟩
  | true =>
    cases b2 with
    | false =>
      simp only [Bool.false_and, Bool.and_false]
      clear HT
      go_enter Tryd.func52, Tryd.ntmps52
      go_wp2_with fail
      refine (H1.out _).mono ?_
      rintro e w1 ⟨rfl, hb⟩
      have HB := Lib.hid hb
      clear hb H1
      go_wp2_with fail
      refine (H2.out _).mono ?_
      rintro e w2 ⟨rfl, hb⟩
      have HB := Lib.hid (HB.out.trans (hb.mono HB.out.size))
      clear hb H2
      go_wp2
      go_ret
      exact ⟨by try rfl, HB.out⟩
    | true =>
      simp only [Bool.true_and, Bool.and_true]
      have HT1 := Lib.hid (HT.out rfl rfl)
      clear HT
      go_enter Tryd.func52, Tryd.ntmps52
      go_wp2_with fail
      refine (H1.out _).mono ?_
      rintro e w1 ⟨rfl, hb⟩
      have HB := Lib.hid hb
      clear hb H1
      go_wp2_with fail
      refine (H2.out _).mono ?_
      rintro e w2 ⟨rfl, hb⟩
      have HB := Lib.hid (HB.out.trans (hb.mono HB.out.size))
      clear hb H2
      go_wp2_with fail
      refine (HT1.out _).mono ?_
      rintro e w3 ⟨rfl, hb⟩
      have HB := Lib.hid (HB.out.trans (hb.mono HB.out.size))
      clear hb HT1
      go_wp2
      go_ret
      exact ⟨by try rfl, HB.out⟩
set_option maxHeartbeats 1000000 in
theorem implPBelow_any (i j k l : Int) (w : World) : Calls Tryd.prog 21 #[.int .i64 i, .int .i64 j, .int .i64 k, .int .i64 l] w fun e w' => e = .returned (.bool (belP i j k l)) ∧ Below w.heap.size w w' := by
  have H1 := Lib.hid (fun W => isBelowP_any i j k l W)
  generalize belP i j k l = R at *
  go_enter Tryd.func21, Tryd.ntmps21
  go_wp2_with fail
  refine (H1.out _).mono ?_
  rintro e w1 ⟨rfl, hb⟩
  have HB := Lib.hid hb
  clear hb
  go_wp2
  go_ret
  exact ⟨by try rfl, HB.out⟩
set_option maxHeartbeats 1000000 in
theorem implPTimes_any (i j k l : Int) (w : World) : Calls Tryd.prog 15 #[.int .i64 i, .int .i64 j, .int .i64 k, .int .i64 l] w fun e w' => e = .returned (.tuple #[.int .i64 (timesP i j k l).1, .int .i64 (timesP i j k l).2.1, .bool (timesP i j k l).2.2]) ∧ Below w.heap.size w w' := by
  have H1 := Lib.hid (fun W => productP_any i j k l W)
  have HZ : Hid ((timesP i j k l).2.2 = false → (timesP i j k l).1 = 0 ∧ (timesP i j k l).2.1 = 0) := fun h => by
    unfold timesP at h ⊢
    split at h
    · cases h
    · rename_i hc; rw [if_neg hc]; exact ⟨rfl, rfl⟩
  generalize timesP i j k l = R at *
  obtain ⟨ra, rb, rc⟩ := R
  cases rc with
  | false =>
    obtain ⟨h1, h2⟩ := HZ.out rfl
    dsimp only at h1 h2
    subst h1 h2
    clear HZ
    rw [show ppV (0, 0, false) = .nilIface from rfl] at H1
    have a2 := ta_nps
    go_enter Tryd.func15, Tryd.ntmps15
    go_wp2_with fail
    refine (H1.out _).mono ?_
    rintro e w1 ⟨rfl, hb⟩
    have HB := Lib.hid hb
    clear hb
    go_wp2_with fail
    go_region
    go_wp2
    exact bodyPost_ret (v := .tuple #[.int .i64 0, .int .i64 0, .bool false]) (by simp [results, Tryd.results15, go_sem]) rfl ⟨by try rfl, (bel_al' HB.out _).drew⟩
  | true =>
    clear HZ
    rw [show ppV (ra, rb, true) = .iface 46 (.agg #[.int .i64 ra, .int .i64 rb]) from rfl] at H1
    have a2 := ta_pi (.agg #[.int .i64 ra, .int .i64 rb])
    go_enter Tryd.func15, Tryd.ntmps15
    go_wp2_with fail
    refine (H1.out _).mono ?_
    rintro e w1 ⟨rfl, hb⟩
    have HB := Lib.hid hb
    clear hb
    go_wp2_with fail
    go_region
    go_wp2
    exact bodyPost_ret (v := .tuple #[.int .i64 ra, .int .i64 rb, .bool true]) (by simp [results, Tryd.results15, go_sem]) rfl ⟨by try rfl, (bel_al' HB.out _).drew⟩
end Go.Proofs.YtdljndpobklkjaaDoor
